/-
  Layer 7, the document's Write: contract. Conditions: as each theorem names.
  Layer 7, the document's Read: contract. Conditions: as each theorem names.
  Layer 7, part: the law's steps: how they come in; the law's great: contract. Conditions: as each theorem names.
  Layer 7, part: the law's great: contract. Conditions: as each theorem names.
  Layer 7, part: what stands between the law's steps: both devices, the part, the region. Conditions: as each theorem names.
  Layer 7, part: a device that stays on: what is written is read, plain. Conditions: as each theorem names.
  Layer 25, image: bytes read piece by piece are those that are read at once; plain. Conditions: as each theorem names.
  Layer 25, image: Put, Keep, Kept, views: contracts. Conditions: as each theorem names.
  Layer 25, the document's answers: slot, Kept, Range. Conditions: the device's row, a layout that may be on it.
  Layer 25, image: Sum: contract. Conditions: as each theorem names.
  Layer 24, journal: which record is the last one, over what sectors read as; plain. Conditions: as each theorem names.
  Layer 24, journal: a journal in memory; Last: contracts. Conditions: as each theorem names.
  Layer 24, journal: Open: contract. Conditions: as each theorem names.
  Layer 24, journal: Write: contract. Conditions: as each theorem names.
  Layer 24, journal: records that come in; a journal and its device of the call's own. Conditions: as each theorem names.
  Layer 24: the law's journal in the first two sectors: contracts. Conditions: as each theorem names.
  Layer 24: a text's bytes; the document's last record: contracts. Conditions: as each theorem names.
  Layer 25, the document's answers: Sum. Conditions: the device's row, a layout that may be on it.
-/
import Derived.Test.YtpnodocjpedcmaaDoorMGIays5
import Derived.Test.YtpnodocjpedcmaaDoorMSfG
import Derived.Test.YtpnodocjpedcmaaDoorMGIays2
import Derived.Deep.RegionHeld
import Derived.Test.YtpnodocjpedcmaaDoorMGIays0
import Derived.OpenShut
import Derived.Test.YtpnodocjpedcmaaDoorMImB
import Derived.StillTailTactics
import Derived.Test.YtpnodocjpedcmaaDoorMShU
import Derived.Deep.RegionHeld3
import Derived.Test.YtpnodocjpedcmaaDoorMJrN
import Derived.Test.YtpnodocjpedcmaaDoorMJrH
import Derived.Test.YtpnodocjpedcmaaDoorMJrK
import Derived.Deep.QuietTactic
import Derived.BigQuiet
import Derived.Lib.QuietBelow
import Derived.Laws.IdiomStrings
import Derived.Test.YtpnodocjpedcmaaDoorMShV
namespace Go.Proofs.YtpnodocjpedcmaaDoor.Pt
open Go.ChangeShapes Go.WideShapes Go.ChangeAt Go.RowKit Go.Proofs.YtpnodocjpedcmaaDoor.Kit Go.Proofs.YtpnodocjpedcmaaDoor.Sec

theorem write_ok {s : Dv} (h : s.Ok) (i : Int) (xs : List Int) : (s.write i xs).2.Ok := by
  unfold Dv.write
  split
  · exact h
  split
  · exact h
  split
  · exact h
  rename_i hr _
  have ht := (h.writes (xs := xs) (by omega : 0 ≤ i) (by omega)).tick
  split
  · exact ht
  · exact ⟨ht.s1, ht.s2, ht.c1, ht.c2, ht.ku, ht.wu, ht.kr, ht.wr_, ht.wn, ht.f1, ht.f2, ht.o1, by have := h.w1; show 0 ≤ s.wr + 1; omega⟩
theorem wrS_ok {s : Dv} (h : s.Ok) (i : Int) (bs : List Int) : ∀ k, (wrS s i bs k).Ok
  | 0 => h
  | k + 1 => write_ok (wrS_ok h i bs k) _ _
theorem back_ok {s : Dv} (h : s.Ok) (picks : List Int) : (s.back picks).Ok := by
  have hd := h.down
  obtain ⟨h1, h2⟩ := backK_ok hd picks s.down.waits.length (Nat.le_refl _)
  rw [back_form]
  exact ⟨hd.s1, hd.s2, hd.c1, hd.c2, h1, up_nil, h2, fun _ h => (List.not_mem_nil h).elim, fun _ h => (List.not_mem_nil h).elim, Int.le_refl _, by show (-1 : Int) ≤ _; omega, hd.o1, hd.w1⟩
theorem below_three (w : World) (o p q : Obj) : Below w.heap.size w (((w.alloc o).alloc p).alloc q) := (below_two w o p).alloc (by simp; omega) q
theorem block_three (w : World) (o p : Obj) (t : TypeId) (cs : Array Value) : Block (((w.alloc o).alloc p).alloc (.cells cs t)) (w.heap.size + 1 + 1) t cs := by
  have := Block.new ((w.alloc o).alloc p) t cs
  rwa [show ((w.alloc o).alloc p).heap.size = w.heap.size + 1 + 1 by simp] at this

/-- Behind k writes of the document's. -/
structure DGoing (w wr : World) (g : Nat) (F C i : Int) (s : Dv) (bs : List Int) (k : Nat) (cs : Array Value) : Prop where
  x : Block wr g 31 cs
  r : Block wr (g + 1) 42 #[.int .i64 F, .int .i64 C]
  z : Block wr (g + 1 + 1) 31 zD
  v : RDv wr (.agg cs) (wrS s i bs k)
  b : Below w.heap.size w wr
  ok : OkW s i bs k
  g : w.heap.size ≤ g
theorem DGoing.below {w wr w' : World} {g : Nat} {F C i : Int} {s : Dv} {bs : List Int} {k : Nat} {cs : Array Value} (h : DGoing w wr g F C i s bs k cs) (hb : Below wr.heap.size wr w') : DGoing w w' g F C i s bs k cs :=
  ⟨h.x.below hb h.x.lt, h.r.below hb h.r.lt, h.z.below hb h.z.lt, h.v.below hb, h.b.trans (hb.mono h.b.size), h.ok, h.g⟩
/-- Behind a write: the next device lies in a block beside. -/
def Mid7 (w wx : World) (g : Nat) (F C : Int) (s : Dv) (v : Value) : Prop :=
  ∃ (g2 : Nat) (cs cs2 : Array Value), v = .pointer (some ⟨g2, 0, none⟩) ∧ (cs.size = 8 ∧ NoText cs) ∧ Block wx g 31 cs ∧ Block wx (g + 1) 42 #[.int .i64 F, .int .i64 C] ∧ Block wx (g + 1 + 1) 31 zD ∧ Block wx g2 31 cs2 ∧ RDv wx (.agg cs2) s ∧ Below w.heap.size w wx ∧ g + 1 + 1 < g2
theorem step_store_blk {P : Program} {ops : Array Oper} {o : Oper} {a : Act} {w : World} {K : Act → World → Prop} {Q : Exit → Act → World → Prop} {E : Prop} (hgd : o.guard = none) (ty : TypeId) (x y : Operand) (ho : o.op = .store ty x y)
    {g : Nat} {t : TypeId} {cs : Array Value} {ds : List Value} (h : Block w g t cs) (hx : a.eval x = .pointer (some ⟨g, 0, none⟩)) (hy : a.eval y = .agg ds.toArray) (hl : ds.length = cs.size) (hi : (P.info? ty).map (·.size) = some ds.length) (hone : ∀ u ∈ ds, u.oneCell' = true)
    (hK : ∀ w', Block w' g t ds.toArray → w.grownBy w' (some g) → K (a.put o.dst undef) w') : if Region.wanted o (yielded ops a.tmps) = true then Oper.wp P o a w K Q else E :=
  step_of_list (by simp [Region.wanted, hgd]) fun Q' hn => wpList_store_blk hgd ty x y ho h hx hy hl hi hone fun w' h1 h2 => hn _ _ (hK w' h1 h2)

set_option maxRecDepth 100000 in
set_option maxHeartbeats 6400000 in
theorem rpwrite_yes (v : Value) (s : Dv) (F C : Int) (T b : Nat) (bs : List Int) (w : World) (h : RDv w v s) (hok : s.Ok) (hl : Lies s F C T) (hbl : bs.length ≤ 1000000) (hof : s.offs ≤ 100000000) (hwr : s.wr ≤ 100000000)
    (hm : b % s.size = 0) (hin : b ≤ T ∧ bs.length ≤ T - b) :
    Calls Tryd.prog 85 #[v, .agg #[.int .i64 F, .int .i64 C], .int .i64 (b : Int), .string (strOfNums bs)] w fun e w' => ∃ r, WritesP s (F + (b / s.size : Nat)) bs r ∧ GivesED r.1 r.2 w e w' := by
  have hT := hl.most hok
  have hs1 := hok.s1
  have hs2 := hok.s2
  have hc1 := hl.c1
  have hf0 := hl.f0
  have hfc := hl.fc
  have hct := hok.c2
  have hCS := hl.t
  have HSz := Lib.hid (strOfNums_size bs)
  have hrem : (b : Int).tmod (s.size : Int) = 0 := by rw [← Int.ofNat_tmod, hm]; rfl
  obtain ⟨i0, hi0⟩ : ∃ i0, F + ((b / s.size : Nat) : Int) = i0 := ⟨_, rfl⟩
  rw [hi0]
  have HNear := Lib.hid (fun k => wrS_near s i0 bs k)
  have HOkW := Lib.hid (fun k => wrS_ok hok i0 bs k)
  have HCut := Lib.hid (fun k => chunk_cut bs s.size k)
  have HFill := Lib.hid (fun k => chunk_fill bs s.size k)
  have HMany := Lib.hid (manyP_iff (n := s.size) (by omega) bs)
  have HV := Lib.hid h
  obtain ⟨Ak, ck, Aw, cw, rfl, hr0⟩ := h
  have G0 : Hid (DGoing w (((w.alloc (.cells (dCells Ak ck Aw cw s) 31)).alloc (.cells #[.int .i64 F, .int .i64 C] 42)).alloc (.cells zD 31)) w.heap.size F C i0 s bs 0 (dCells Ak ck Aw cw s)) := Lib.hid
    ⟨((Block.new w _ _).alloc _).alloc _, (block_two w _ _ _).alloc _, block_three w _ _ _ _, RDv.below ⟨Ak, ck, Aw, cw, rfl, hr0⟩ (below_three w _ _ _), below_three w _ _ _, fun j hj => absurd hj (by omega), Nat.le_refl _⟩
  obtain ⟨z, hz⟩ : ∃ z, s.size = z := ⟨_, rfl⟩
  have HZ := Lib.hid hz
  rw [hz] at hs1 hs2 hCS hrem HCut HFill HMany HNear
  obtain ⟨S, hS⟩ : ∃ S, strOfNums bs = S := ⟨_, rfl⟩
  rw [hS] at HCut HSz ⊢
  obtain ⟨L, hL⟩ : ∃ L, bs.length = L := ⟨_, rfl⟩
  rw [hL] at HCut HSz hin hbl HMany
  have hsz : S.size = L := HSz.out
  have HI0 := Lib.hid hi0
  have HL := Lib.hid hL
  have d1 : decide ((b : Int) < 0) = false := decide_eq_false (by omega)
  have d2 : decide (T < b) = false := decide_eq_false (by omega)
  have d3 : decide ((T : Int) - (b : Int) < (L : Int)) = false := decide_eq_false (by omega)
  have HOK := Lib.hid hok
  have hzz : ¬ z = 0 := by omega
  unfold zD at G0
  unfold dCells at G0 ⊢
  rw [hz] at G0 ⊢
  clear hr0 hS hL hi0 hl hok HV hm
  go_enter Tryd.func85, Tryd.ntmps85
  go_wp2_with fail
  generalize hW3 : ((w.alloc _).alloc _).alloc _ = w3 at *
  have hg0 : w.heap.size ≤ w.heap.size := Nat.le_refl _
  generalize hg : w.heap.size = g at hg0 G0 ⊢
  have HG := Lib.hid hg
  clear hW3 hg d1 d2 d3 hrem
  go_loopw [11] (fun q wr => ∃ (k : Nat) (cs : Array Value), k ≤ manyP z bs ∧ q = .int .i64 k ∧ DGoing w wr g F C i0 s bs k cs) (fun q _ => manyP z bs - (intOf q).toNat)
  case atStart => exact ⟨0, _, Nat.zero_le _, rfl, G0.out⟩
  case round =>
    clear G0
    obtain ⟨k, cs, hk, rfl, G⟩ := hrel
    obtain ⟨Ak, ck, Aw, cw, hce, hrv⟩ := G.v
    injection hce with hce
    subst hce
    obtain ⟨K, hK⟩ : ∃ K : Nat, k * z = K := ⟨_, rfl⟩
    have hKz : (k : Int) * (z : Int) = (K : Int) := by rw [← hK, Int.natCast_mul]
    have hKz1 : ((k : Int) + 1) * (z : Int) = (K : Int) + (z : Int) := by rw [Int.add_mul, hKz, Int.one_mul]
    have hKb : K ≤ 1004096 := by
      have h1 : k * z ≤ manyP z bs * z := Nat.mul_le_mul_right z hk
      have h2 : manyP z bs * z ≤ bs.length + z - 1 := Nat.div_mul_le_self _ _
      rw [hK] at h1
      rw [HL.out] at h2
      omega
    have hmany := HMany.out k
    rw [hK] at hmany
    obtain ⟨n1, n2, n3, n4⟩ := HNear.out k
    have ok1 := HOkW.out k
    generalize hsk : wrS s i0 bs k = sk at *
    have hzk : sk.size = z := n3
    have x0 : wr.cell? ⟨g, 0, none⟩ = some (.int .i64 (z : Int)) := by rw [G.x.cell 0]; unfold dCells; rw [hzk]; rfl
    have r0 : wr.cell? ⟨g + 1, 0, none⟩ = some (.int .i64 F) := G.r.cell 0
    have XG := Lib.hid (show DGoing w wr g F C i0 s bs k (dCells Ak ck Aw cw sk) from G)
    have HSK := Lib.hid hsk
    have HN := Lib.hid (⟨n1, n2, n3, n4⟩ : _ ∧ _ ∧ _ ∧ _)
    have HOK1 := Lib.hid ok1
    have HZK := Lib.hid hzk
    have HMK := Lib.hid hmany
    have HRV := Lib.hid hrv
    have HKK := Lib.hid hK
    clear n1 n2 n3 n4 ok1 hzk hsk G hmany hrv hK
    by_cases hlt : K < L
    · have d0 : decide (K < L) = true := decide_eq_true hlt
      have hkb : k ≤ 1000000 := by
        have h1 : k * 1 ≤ k * z := Nat.mul_le_mul_left k (by omega)
        have := HKK.out
        omega
      obtain ⟨M, hM⟩ : ∃ M : Nat, min L (K + z) = M := ⟨_, rfl⟩
      have hmin : min (L : Int) ((K : Int) + (z : Int)) = (M : Int) := by omega
      have hM1 : M ≤ L := by omega
      have hM2 : K ≤ M := by omega
      have hcut0 := HCut.out k
      have hfill0 := HFill.out k
      have hKS : (k + 1) * z = K + z := by rw [Nat.add_mul, HKK.out, Nat.one_mul]
      rw [hKS, HKK.out, hM] at hcut0
      rw [HKK.out] at hfill0
      obtain ⟨ch, hch⟩ : ∃ ch, (bs.drop K).take z = ch := ⟨_, rfl⟩
      rw [hch] at hcut0 hfill0
      have hcl : ch.length = M - K := by rw [← hch, List.length_take, List.length_drop, HL.out]; omega
      obtain ⟨S1, hS1⟩ : ∃ S1, strOfNums ch = S1 := ⟨_, rfl⟩
      have hs1z : S1.size = M - K := by rw [← hS1, strOfNums_size, hcl]
      rw [hS1] at hcut0 hfill0
      rw [hcl] at hfill0
      obtain ⟨n, hn⟩ : ∃ n : Nat, z - (M - K) = n := ⟨_, rfl⟩
      have hzn : (z : Int) - ((M - K : Nat) : Int) = (n : Int) := by omega
      have hn1 : n ≤ z := by omega
      rw [hn] at hfill0
      obtain ⟨Z1, hZ1⟩ : ∃ Z1, strOfNums (List.replicate n 0) = Z1 := ⟨_, rfl⟩
      have hz1z : Z1.size = n := by rw [← hZ1, strOfNums_size, List.length_replicate]
      rw [hZ1] at hfill0
      have HZ1 := Lib.hid hZ1
      have HCH := Lib.hid hfill0
      have hadd : ∀ W, (Op.stringOp .add S1 Z1).run Tryd.prog W = .ok (.string (strOfNums (chunkP z bs k))) W := fun W => by
        rw [← HCH.out]
        exact run_string_add W S1 Z1 (by omega) (by omega)
      have HM := Lib.hid (⟨hM, hn, hlt⟩ : _ ∧ _ ∧ _)
      have HKM : Hid (k < manyP z bs) := Lib.hid (HMK.out.2 hlt)
      clear hM hS1 hn hZ1 hch hKS hfill0 hcl hlt hz1z
      go_wp2_with (at_make; refine wpList_make_ints _ rfl _ _ _ rfl elem8 n n rfl rfl rfl rfl (Nat.le_refl _) (by omega) ?_; intro w5 own5 hb5 hl5; obtain ⟨A5, c5, he5, _, _, hh5⟩ := own5.opened; have kc := conv_bytes (P := Tryd.prog) Tryd.underlying22 Tryd.underlying5 Tryd.underlying9 w5 A5 (List.replicate n 0) c5 _ hh5; rw [← he5, HZ1.out] at kc; clear he5 hh5 own5)
      have G5 := XG.out.below hb5
      have P0 := Lib.hid G5.ok
      obtain ⟨Q, hQ⟩ : ∃ Q : Nat, b / z = Q := ⟨_, rfl⟩
      have HQ : Hid ((b : Int).tdiv (z : Int) = (Q : Int)) := Lib.hid (by rw [← hQ]; exact (Int.ofNat_tdiv b z).symm)
      have HQ3 : Hid ((b : Int) / (z : Int) = (Q : Int)) := Lib.hid (by rw [← hQ]; exact (Int.natCast_ediv b z).symm)
      have HI2 : Hid (F + (Q : Int) = i0) := Lib.hid (by rw [← hQ, ← HZ.out]; exact HI0.out)
      have hQb : Q ≤ b := by rw [← hQ]; exact Nat.div_le_self _ _
      have hi0b : -1000000 ≤ i0 ∧ i0 ≤ 8589934592 := by have := HI2.out; omega
      obtain ⟨n1, n2, n3, n4⟩ := HN.out
      obtain ⟨E, hE⟩ : ∃ E, errS s i0 bs k = E := ⟨_, rfl⟩
      obtain ⟨s1, hs1⟩ : ∃ s1, wrS s i0 bs (k + 1) = s1 := ⟨_, rfl⟩
      have GW : Hid (∀ W, RDv W (.agg (dCells Ak ck Aw cw sk)) (wrS s i0 bs k) → Calls Tryd.prog 13 #[.agg (dCells Ak ck Aw cw sk), .int .i64 (i0 + (k : Int)), .string (strOfNums (chunkP z bs k))] W (GivesED E s1 W)) := Lib.hid (fun W hv => by
        rw [HSK.out] at hv
        have := rwrite_any _ sk (i0 + (k : Int)) (chunkP z bs k) W hv HOK1.out (by omega) (by rw [chunkP_length]; omega) (by omega) (by omega)
        have e : sk.write (i0 + (k : Int)) (chunkP z bs k) = (E, s1) := by
          rw [← hE, ← hs1, ← HSK.out, ← HZ.out]
          rfl
        rwa [e] at this)
      have HE := Lib.hid hE
      have HS1 := Lib.hid hs1
      have RV5 : RDv w5 (.agg (dCells Ak ck Aw cw sk)) sk := by have := G5.v; rwa [HSK.out] at this
      clear n1 n2 n3 n4 hE hs1 kc hadd hcut0 hs1z hmin hzn hQ XG
      go_cut [13, 14] (fun v13 v14 wx => v13 = .int .i64 E ∧ Mid7 w wx g F C s1 v14)
      case first =>
        have P : DGoing w w5.drew g F C i0 s bs k (dCells Ak ck Aw cw sk) := G5.below (below_draws (Below.refl _ _) 1)
        have hZ0 : ∀ W, Block W g 31 (dCells Ak ck Aw cw sk) → W.cell? ⟨g, 0, none⟩ = some (.int .i64 (z : Int)) := fun W hW => by (rw [hW.cell 0]; unfold dCells; rw [HZK.out]; rfl)
        refine wp_region_held_drew (S := fun W => Block W g 31 (dCells Ak ck Aw cw sk) ∧ Block W (g + 1) 42 #[.int .i64 F, .int .i64 C]) (by kernel_rfl) ⟨P.x, P.r⟩ (fun hS => ?_)
        refine wpAnyH_take (i := 0) (oi := ⟨some 75, _, _, _, _, _⟩) (v := .agg (dCells Ak ck Aw cw sk)) rfl (by kernel_rfl) (by kernel_rfl) (by kernel_rfl) (fun _ _ _ h => h) (yieldsIf_load_mid (by rfl) _ _ rfl g (0) rfl (dCells Ak ck Aw cw sk).toList _ (fun W hW => block_range hW.1) Tryd.underlying31 rfl (by kernel_rfl)) hS ?_
        try simp only [Act.put, List.setIfInBounds_toArray, List.set_cons_zero, List.set_cons_succ]
        refine wpAnyH_take (i := 1) (oi := ⟨some 76, _, _, _, _, _⟩) (v := .pointer (some ⟨g + 1, 0, none⟩)) rfl (by kernel_rfl) (by kernel_rfl) (by kernel_rfl) (fun _ _ _ h => h) (Or.inl ⟨by rfl, fun W hW => by go_simp⟩) hS ?_
        try simp only [Act.put, List.setIfInBounds_toArray, List.set_cons_zero, List.set_cons_succ]
        refine wpAnyH_take (i := 3) (oi := ⟨some 78, _, _, _, _, _⟩) (v := .int .i64 (b : Int)) rfl (by kernel_rfl) (by kernel_rfl) (by kernel_rfl) (fun _ _ _ h => h) (Or.inl ⟨by rfl, fun W hW => by go_simp⟩) hS ?_
        try simp only [Act.put, List.setIfInBounds_toArray, List.set_cons_zero, List.set_cons_succ]
        refine wpAnyH_take (i := 4) (oi := ⟨some 79, _, _, _, _, _⟩) (v := .pointer (some ⟨g, 0, none⟩)) rfl (by kernel_rfl) (by kernel_rfl) (by kernel_rfl) (fun _ _ _ h => h) (Or.inl ⟨by rfl, fun W hW => by go_simp⟩) hS ?_
        try simp only [Act.put, List.setIfInBounds_toArray, List.set_cons_zero, List.set_cons_succ]
        refine wpAnyH_take (i := 8) (oi := ⟨some 83, _, _, _, _, _⟩) (v := .int .i64 (k : Int)) rfl (by kernel_rfl) (by kernel_rfl) (by kernel_rfl) (fun _ _ _ h => h) (Or.inl ⟨by rfl, fun W hW => by go_simp⟩) hS ?_
        try simp only [Act.put, List.setIfInBounds_toArray, List.set_cons_zero, List.set_cons_succ]
        refine wpAnyH_take (i := 10) (oi := ⟨some 85, _, _, _, _, _⟩) (v := .string (strOfNums (chunkP z bs k))) rfl (by kernel_rfl) (by kernel_rfl) (by kernel_rfl) (fun _ _ _ h => h) (Or.inl ⟨by rfl, fun W hW => by go_simp⟩) hS ?_
        try simp only [Act.put, List.setIfInBounds_toArray, List.set_cons_zero, List.set_cons_succ]
        refine wpAnyH_take (i := 2) (oi := ⟨some 77, _, _, _, _, _⟩) (v := .int .i64 F) rfl (by kernel_rfl) (by kernel_rfl) (by kernel_rfl) (fun _ _ _ h => h) (Or.inl ⟨by rfl, fun W hW => by have q0 : W.cell? ⟨g + 1, 0, none⟩ = some (.int .i64 F) := Block.cell hW.2 0; go_simp⟩) hS ?_
        try simp only [Act.put, List.setIfInBounds_toArray, List.set_cons_zero, List.set_cons_succ]
        refine wpAnyH_take (i := 5) (oi := ⟨some 80, _, _, _, _, _⟩) (v := .int .i64 (z : Int)) rfl (by kernel_rfl) (by kernel_rfl) (by kernel_rfl) (fun _ _ _ h => h) (Or.inl ⟨by rfl, fun W hW => by have q0 := hZ0 W hW.1; go_simp⟩) hS ?_
        try simp only [Act.put, List.setIfInBounds_toArray, List.set_cons_zero, List.set_cons_succ]
        refine wpAnyH_take (i := 6) (oi := ⟨some 81, _, _, _, _, _⟩) (v := .int .i64 (Q : Int)) rfl (by kernel_rfl) (by kernel_rfl) (by kernel_rfl) (fun _ _ _ h => h) (Or.inl ⟨by rfl, fun W hW => by go_simp; first | exact IntWalk.i64_in _ (by omega) | (rw [HQ.out]; exact IntWalk.i64_in _ (by omega)) | (rw [HQ3.out]; exact IntWalk.i64_in _ (by omega))⟩) hS ?_
        try simp only [Act.put, List.setIfInBounds_toArray, List.set_cons_zero, List.set_cons_succ]
        refine wpAnyH_take (i := 7) (oi := ⟨some 82, _, _, _, _, _⟩) (v := .int .i64 i0) rfl (by kernel_rfl) (by kernel_rfl) (by kernel_rfl) (fun _ _ _ h => h) (Or.inl ⟨by rfl, fun W hW => by go_simp; rw [HI2.out]; exact IntWalk.i64_in _ (by omega)⟩) hS ?_
        try simp only [Act.put, List.setIfInBounds_toArray, List.set_cons_zero, List.set_cons_succ]
        refine wpAnyH_take (i := 9) (oi := ⟨some 84, _, _, _, _, _⟩) (v := .int .i64 (i0 + (k : Int))) rfl (by kernel_rfl) (by kernel_rfl) (by kernel_rfl) (fun _ _ _ h => h) (Or.inl ⟨by rfl, fun W hW => by go_simp; exact IntWalk.i64_in _ (by omega)⟩) hS ?_
        try simp only [Act.put, List.setIfInBounds_toArray, List.set_cons_zero, List.set_cons_succ]
        refine wpAnyH_ready (rs := [11, 15]) (by kernel_rfl) (by simp) ?_
        refine AllReadyH.cons rfl (fun K hK => ?_) (AllReadyH.cons rfl (fun K hK => ?_) AllReadyH.nil)
        · go_simp
          go_at_call 13
          refine (GW.out _ P.v).mono ?_
          rintro e x1 ⟨v1, rfl, RV1, hb1⟩
          obtain ⟨Ak1, ck1, Aw1, cw1, rfl, hr1⟩ := RV1
          have RV1 : RDv x1 (.agg (dCells Ak1 ck1 Aw1 cw1 s1)) s1 := ⟨Ak1, ck1, Aw1, cw1, rfl, hr1⟩
          have P1 := P.below hb1
          clear hr1
          refine hK.out _ _ ⟨P1.x, P1.r⟩ (fun hS => ?_)
          clear hK K
          try simp only [Act.put, List.setIfInBounds_toArray, List.set_cons_zero, List.set_cons_succ]
          refine wpAnyH_take (i := 12) (oi := ⟨some 74, _, _, _, _, _⟩) (v := .tuple #[.int .i64 E, .agg (dCells Ak1 ck1 Aw1 cw1 s1)]) rfl (by kernel_rfl) (by kernel_rfl) (by kernel_rfl) (fun _ _ _ h => h) (Or.inl ⟨by rfl, fun W hW => by go_simp⟩) hS ?_
          try simp only [Act.put, List.setIfInBounds_toArray, List.set_cons_zero, List.set_cons_succ]
          refine wpAnyH_take (i := 13) (oi := ⟨some 87, _, _, _, _, _⟩) (v := .int .i64 E) rfl (by kernel_rfl) (by kernel_rfl) (by kernel_rfl) (fun _ _ _ h => h) (Or.inl ⟨by rfl, fun W hW => by go_simp⟩) hS ?_
          try simp only [Act.put, List.setIfInBounds_toArray, List.set_cons_zero, List.set_cons_succ]
          refine wpAnyH_take (i := 14) (oi := ⟨some 88, _, _, _, _, _⟩) (v := .agg (dCells Ak1 ck1 Aw1 cw1 s1)) rfl (by kernel_rfl) (by kernel_rfl) (by kernel_rfl) (fun _ _ _ h => h) (Or.inl ⟨by rfl, fun W hW => by go_simp⟩) hS ?_
          try simp only [Act.put, List.setIfInBounds_toArray, List.set_cons_zero, List.set_cons_succ]
          refine wpAnyH_ready (rs := [15]) (by kernel_rfl) (by simp) ?_
          refine AllReadyH.cons rfl (fun K hK => ?_) AllReadyH.nil
          go_simp
          have B2 : Below x1.heap.size x1 (x1.alloc (.cells zD 31)) := (Below.refl _ _).alloc (Nat.le_refl _) _
          have Z2 : Block (x1.alloc (.cells zD 31)) x1.heap.size 31 zD := Block.new _ _ _
          have P2 := P1.below B2
          have RV2 := RV1.below B2
          have hg2 := P1.b.size
          have hne := P1.z.lt
          refine hK.out _ _ ⟨P2.x, P2.r⟩ (fun hS => ?_)
          clear hK K
          try simp only [Act.put, List.setIfInBounds_toArray, List.set_cons_zero, List.set_cons_succ]
          refine wpAnyH_ready (rs := [16]) (by kernel_rfl) (by simp) ?_
          refine AllReadyH.cons rfl (fun K hK => ?_) AllReadyH.nil
          go_simp
          refine hK.out _ _ ⟨P2.x, P2.r⟩ (fun hS => ?_)
          clear hK K
          try simp only [Act.put, List.setIfInBounds_toArray, List.set_cons_zero, List.set_cons_succ]
          refine wpAnyH_ready (rs := [17]) (by kernel_rfl) (by simp) ?_
          refine AllReadyH.cons rfl (fun K hK => ?_) AllReadyH.nil
          refine step_store_blk rfl _ _ _ rfl (cs := zD) (ds := (dCells Ak1 ck1 Aw1 cw1 s1).toList) (by exact Z2) rfl rfl rfl (by kernel_rfl) (dCells_one _ _ _ _ _) ?_
          intro x3 Z3 g3
          have X3 := P2.x.grown g3 (by intro h; injection h with h; omega)
          have R3 := P2.r.grown g3 (by intro h; injection h with h; omega)
          have Y3 := P2.z.grown g3 (by intro h; injection h with h; omega)
          have RV3 := RV2.kept Z2 zD_noText g3
          have B3 := P2.b.trans (below_of_grown g3 P2.b.size fun b hb => by injection hb with hb; omega)
          refine hK.out _ _ ⟨X3, R3⟩ (fun hS => ?_)
          clear hK K
          try simp only [Act.put, List.setIfInBounds_toArray, List.set_cons_zero, List.set_cons_succ]
          refine wpAnyH_done (by kernel_rfl) ?_ _
          go_wp2_with fail
          go_meet
          exact ⟨rfl, _, _, _, rfl, ⟨rfl, dCells_noText _ _ _ _ _⟩, X3, R3, Y3, Z3, RV3, B3, by omega⟩
        · go_simp
          have B0 : Below w5.drew.heap.size w5.drew (w5.drew.alloc (.cells zD 31)) := (Below.refl _ _).alloc (Nat.le_refl _) _
          have Z0 : Block (w5.drew.alloc (.cells zD 31)) w5.drew.heap.size 31 zD := Block.new _ _ _
          have P0 := P.below B0
          have hg2 : w.heap.size ≤ w5.heap.size := P.b.size
          have hne : g + 1 + 1 < w5.heap.size := P.z.lt
          refine hK.out _ _ ⟨P0.x, P0.r⟩ (fun hS => ?_)
          clear hK K
          try simp only [Act.put, List.setIfInBounds_toArray, List.set_cons_zero, List.set_cons_succ]
          refine wpAnyH_ready (rs := [11]) (by kernel_rfl) (by simp) ?_
          refine AllReadyH.cons rfl (fun K hK => ?_) AllReadyH.nil
          go_simp
          go_at_call 13
          refine (GW.out _ P0.v).mono ?_
          rintro e x1 ⟨v1, rfl, RV1, hb1⟩
          obtain ⟨Ak1, ck1, Aw1, cw1, rfl, hr1⟩ := RV1
          have RV1 : RDv x1 (.agg (dCells Ak1 ck1 Aw1 cw1 s1)) s1 := ⟨Ak1, ck1, Aw1, cw1, rfl, hr1⟩
          have P1 := P0.below hb1
          clear hr1
          refine hK.out _ _ ⟨P1.x, P1.r⟩ (fun hS => ?_)
          clear hK K
          try simp only [Act.put, List.setIfInBounds_toArray, List.set_cons_zero, List.set_cons_succ]
          refine wpAnyH_take (i := 12) (oi := ⟨some 74, _, _, _, _, _⟩) (v := .tuple #[.int .i64 E, .agg (dCells Ak1 ck1 Aw1 cw1 s1)]) rfl (by kernel_rfl) (by kernel_rfl) (by kernel_rfl) (fun _ _ _ h => h) (Or.inl ⟨by rfl, fun W hW => by go_simp⟩) hS ?_
          try simp only [Act.put, List.setIfInBounds_toArray, List.set_cons_zero, List.set_cons_succ]
          refine wpAnyH_take (i := 13) (oi := ⟨some 87, _, _, _, _, _⟩) (v := .int .i64 E) rfl (by kernel_rfl) (by kernel_rfl) (by kernel_rfl) (fun _ _ _ h => h) (Or.inl ⟨by rfl, fun W hW => by go_simp⟩) hS ?_
          try simp only [Act.put, List.setIfInBounds_toArray, List.set_cons_zero, List.set_cons_succ]
          refine wpAnyH_take (i := 14) (oi := ⟨some 88, _, _, _, _, _⟩) (v := .agg (dCells Ak1 ck1 Aw1 cw1 s1)) rfl (by kernel_rfl) (by kernel_rfl) (by kernel_rfl) (fun _ _ _ h => h) (Or.inl ⟨by rfl, fun W hW => by go_simp⟩) hS ?_
          try simp only [Act.put, List.setIfInBounds_toArray, List.set_cons_zero, List.set_cons_succ]
          have Z2 := Z0.below hb1 Z0.lt
          have P2 := P1
          have RV2 := RV1
          refine wpAnyH_ready (rs := [16]) (by kernel_rfl) (by simp) ?_
          refine AllReadyH.cons rfl (fun K hK => ?_) AllReadyH.nil
          go_simp
          refine hK.out _ _ ⟨P2.x, P2.r⟩ (fun hS => ?_)
          clear hK K
          try simp only [Act.put, List.setIfInBounds_toArray, List.set_cons_zero, List.set_cons_succ]
          refine wpAnyH_ready (rs := [17]) (by kernel_rfl) (by simp) ?_
          refine AllReadyH.cons rfl (fun K hK => ?_) AllReadyH.nil
          refine step_store_blk rfl _ _ _ rfl (cs := zD) (ds := (dCells Ak1 ck1 Aw1 cw1 s1).toList) (by exact Z2) rfl rfl rfl (by kernel_rfl) (dCells_one _ _ _ _ _) ?_
          intro x3 Z3 g3
          have X3 := P2.x.grown g3 (by intro h; injection h with h; omega)
          have R3 := P2.r.grown g3 (by intro h; injection h with h; omega)
          have Y3 := P2.z.grown g3 (by intro h; injection h with h; omega)
          have RV3 := RV2.kept Z2 zD_noText g3
          have B3 := P2.b.trans (below_of_grown g3 P2.b.size fun b hb => by injection hb with hb; omega)
          refine hK.out _ _ ⟨X3, R3⟩ (fun hS => ?_)
          clear hK K
          try simp only [Act.put, List.setIfInBounds_toArray, List.set_cons_zero, List.set_cons_succ]
          refine wpAnyH_done (by kernel_rfl) ?_ _
          go_wp2_with fail
          go_meet
          exact ⟨rfl, _, _, _, rfl, ⟨rfl, dCells_noText _ _ _ _ _⟩, X3, R3, Y3, Z3, RV3, B3, by omega⟩
      case rest =>
        obtain ⟨rfl, g2, cs, cs2, rfl, ⟨hcz, hnt⟩, X4, R4, Y4, Z4, RV4, B4, hgg⟩ := hcut
        rename World => w4
        obtain ⟨Ak1, ck1, Aw1, cw1, hce, hr4⟩ := RV4
        injection hce with hce
        subst hce
        have RV4 : RDv w4 (.agg (dCells Ak1 ck1 Aw1 cw1 s1)) s1 := ⟨Ak1, ck1, Aw1, cw1, rfl, hr4⟩
        clear hr4
        have hgw := G5.g
        clear G5 RV5 GW hb5
        go_upto_region 13 with (first
          | (have _t := Z4; refine wpList_load_midV (by rfl) _ _ rfl g2 0 rfl (dCells Ak1 ck1 Aw1 cw1 s1).toList (block_range Z4) Tryd.underlying31 rfl (by kernel_rfl) ?_; clear _t Z4)
          | (have _t := X4; refine wpList_store_blk (cs := cs) rfl _ _ _ rfl (ds := (dCells Ak1 ck1 Aw1 cw1 s1).toList) (by exact X4) rfl rfl (by rw [hcz]; rfl) (by kernel_rfl) (dCells_one _ _ _ _ _) ?_; clear _t; intro w6 X6 g6))
        try simp only [Act.put]
        have R6 := R4.grown g6 (by intro h; injection h with h; omega)
        have Y6 := Y4.grown g6 (by intro h; injection h with h; omega)
        have RV6 := RV4.kept X4 hnt g6
        have B6 := B4.trans (below_of_grown g6 B4.size fun b hb => by injection hb with hb; omega)
        clear X4 R4 Y4 RV4 B4 g6
        by_cases hE0 : E = 0
        · subst hE0
          have HG6 : Hid (DGoing w w6 g F C i0 s bs (k + 1) (dCells Ak1 ck1 Aw1 cw1 s1)) := Lib.hid ⟨X6, R6, Y6, by rw [HS1.out]; exact RV6, B6, fun j hj => by
            rcases Nat.lt_or_ge j k with h | h
            · exact P0.out j h
            · obtain rfl : j = k := by omega
              exact HE.out, hgw⟩
          have HK1 : Hid (k + 1 ≤ manyP z bs) := Lib.hid HKM.out
          clear X6 R6 Y6 RV6 B6
          go_wp2_with fail
          go_roundw
          case rel => exact ⟨k + 1, _, HK1.out, by go_num, HG6.out⟩
          case measure =>
            have := HKM.out
            simp only [intOf]
            omega
        · have d1 : (E != 0) = true := by simpa using hE0
          go_wp2_with fail
          have X9 : Block w6.drew g 31 (dCells Ak1 ck1 Aw1 cw1 s1) := Block.drewN X6 1
          have Y9 : Block w6.drew (g + 1 + 1) 31 zD := Block.drewN Y6 1
          have B9 : Below w.heap.size w w6.drew := below_draws B6 1
          have RV9 := RDv.below RV6 (below_draws (Below.refl _ _) 1)
          refine wp_region_held_drew (S := fun W => Block W g 31 (dCells Ak1 ck1 Aw1 cw1 s1)) (by kernel_rfl) X6 (fun hS => ?_)
          refine wpAnyH_take (i := 0) (oi := ⟨some 92, _, _, _, _, _⟩) (v := .int .i64 E) rfl (by kernel_rfl) (by kernel_rfl) (by kernel_rfl) (fun _ _ _ h => h) (Or.inl ⟨by rfl, fun W hW => by go_simp⟩) hS ?_
          try simp only [Act.put, List.setIfInBounds_toArray, List.set_cons_zero, List.set_cons_succ]
          refine wpAnyH_take (i := 1) (oi := ⟨some 93, _, _, _, _, _⟩) (v := .agg (dCells Ak1 ck1 Aw1 cw1 s1)) rfl (by kernel_rfl) (by kernel_rfl) (by kernel_rfl) (fun _ _ _ h => h) (yieldsIf_load_mid (by rfl) _ _ rfl g (0) rfl (dCells Ak1 ck1 Aw1 cw1 s1).toList _ (fun W hW => block_range hW) Tryd.underlying31 rfl (by kernel_rfl)) hS ?_
          try simp only [Act.put, List.setIfInBounds_toArray, List.set_cons_zero, List.set_cons_succ]
          refine wpAnyH_ready (rs := [2]) (by kernel_rfl) (by simp) ?_
          refine AllReadyH.cons rfl (fun K hK => ?_) AllReadyH.nil
          go_simp
          refine hK.out _ _ X9 (fun hS => ?_)
          clear hK K
          try simp only [Act.put, List.setIfInBounds_toArray, List.set_cons_zero, List.set_cons_succ]
          refine wpAnyH_ready (rs := [3]) (by kernel_rfl) (by simp) ?_
          refine AllReadyH.cons rfl (fun K hK => ?_) AllReadyH.nil
          refine step_store_blk rfl _ _ _ rfl (cs := zD) (ds := (dCells Ak1 ck1 Aw1 cw1 s1).toList) (by exact Y9) rfl rfl rfl (by kernel_rfl) (dCells_one _ _ _ _ _) ?_
          intro x9 Z9 g9
          have X10 := X9.grown g9 (by intro h; injection h with h; omega)
          have RV10 := RV9.kept Y9 zD_noText g9
          have B10 := B9.trans (below_of_grown g9 B9.size fun b hb => by injection hb with hb; omega)
          refine hK.out _ _ X10 (fun hS => ?_)
          clear hK K
          try simp only [Act.put, List.setIfInBounds_toArray, List.set_cons_zero, List.set_cons_succ]
          refine wpAnyH_done (by kernel_rfl) ?_ _
          go_wp2_with fail
          exact bodyPost_ret (v := .tuple #[.int .i64 E, .agg (dCells Ak1 ck1 Aw1 cw1 s1)]) (results_tmp_row rfl _ _ (g + 1 + 1) 31 _ (0, 0) _ _ rfl rfl Z9 Tryd.underlying31 rfl (by kernel_rfl)) rfl ⟨(E, s1), Or.inl ⟨k, by rw [HZ.out]; exact HKM.out, P0.out, by rw [HE.out]; exact hE0, by rw [HE.out, HS1.out]⟩, _, rfl, RV10, B10⟩
    · have d0 : decide (K < L) = false := decide_eq_false hlt
      have hke : k = manyP z bs := by
        rcases Nat.lt_or_ge k (manyP z bs) with h | h
        · exact absurd (HMK.out.1 h) hlt
        · omega
      have HV2 : Hid (RDv wr (.agg (dCells Ak ck Aw cw sk)) sk) := Lib.hid (by have := XG.out.v; rwa [HSK.out] at this)
      have hgw := XG.out.g
      have HKE := Lib.hid hke
      clear hke
      go_wp2_with fail
      have hke := HKE.out
      have X9 : Block wr.drew g 31 (dCells Ak ck Aw cw sk) := Block.drewN XG.out.x 1
      have Y9 : Block wr.drew (g + 1 + 1) 31 zD := Block.drewN XG.out.z 1
      have B9 : Below w.heap.size w wr.drew := below_draws XG.out.b 1
      have RV9 := RDv.below HV2.out (below_draws (Below.refl _ _) 1)
      refine wp_region_held_drew (S := fun W => Block W g 31 (dCells Ak ck Aw cw sk)) (by kernel_rfl) XG.out.x (fun hS => ?_)
      refine wpAnyH_take (i := 0) (oi := ⟨some 94, _, _, _, _, _⟩) (v := .agg (dCells Ak ck Aw cw sk)) rfl (by kernel_rfl) (by kernel_rfl) (by kernel_rfl) (fun _ _ _ h => h) (yieldsIf_load_mid (by rfl) _ _ rfl g (0) rfl (dCells Ak ck Aw cw sk).toList _ (fun W hW => block_range hW) Tryd.underlying31 rfl (by kernel_rfl)) hS ?_
      try simp only [Act.put, List.setIfInBounds_toArray, List.set_cons_zero, List.set_cons_succ]
      refine wpAnyH_ready (rs := [1]) (by kernel_rfl) (by simp) ?_
      refine AllReadyH.cons rfl (fun K hK => ?_) AllReadyH.nil
      go_simp
      refine hK.out _ _ X9 (fun hS => ?_)
      clear hK K
      try simp only [Act.put, List.setIfInBounds_toArray, List.set_cons_zero, List.set_cons_succ]
      refine wpAnyH_ready (rs := [2]) (by kernel_rfl) (by simp) ?_
      refine AllReadyH.cons rfl (fun K hK => ?_) AllReadyH.nil
      refine step_store_blk rfl _ _ _ rfl (cs := zD) (ds := (dCells Ak ck Aw cw sk).toList) (by exact Y9) rfl rfl rfl (by kernel_rfl) (dCells_one _ _ _ _ _) ?_
      intro x9 Z9 g9
      have X10 := X9.grown g9 (by intro h; injection h with h; omega)
      have RV10 := RV9.kept Y9 zD_noText g9
      have B10 := B9.trans (below_of_grown g9 B9.size fun b hb => by injection hb with hb; omega)
      refine hK.out _ _ X10 (fun hS => ?_)
      clear hK K
      try simp only [Act.put, List.setIfInBounds_toArray, List.set_cons_zero, List.set_cons_succ]
      refine wpAnyH_done (by kernel_rfl) ?_ _
      go_wp2_with fail
      exact bodyPost_ret (v := .tuple #[.int .i64 0, .agg (dCells Ak ck Aw cw sk)]) (results_tmp_row rfl _ _ (g + 1 + 1) 31 _ (0, 0) _ _ rfl rfl Z9 Tryd.underlying31 rfl (by kernel_rfl)) rfl ⟨(0, sk), Or.inr ⟨by rw [HZ.out, ← hke]; exact XG.out.ok, by rw [HZ.out, ← hke, HSK.out]⟩, _, rfl, RV10, B10⟩

set_option maxRecDepth 100000 in
set_option maxHeartbeats 6400000 in
theorem rpwrite_no (v : Value) (s : Dv) (F C : Int) (T : Nat) (x : Int) (bs : List Int) (w : World) (h : RDv w v s) (hok : s.Ok) (hl : Lies s F C T) (hx : -9223372036854775808 ≤ x ∧ x ≤ 9223372036854775807) (hbl : bs.length ≤ 1000000)
    (hno : ¬ (x.tmod s.size = 0 ∧ 0 ≤ x ∧ x ≤ T ∧ 0 ≤ (bs.length : Int) ∧ (bs.length : Int) ≤ T - x)) :
    Calls Tryd.prog 85 #[v, .agg #[.int .i64 F, .int .i64 C], .int .i64 x, .string (strOfNums bs)] w fun e w' => ∃ r : Int × Dv, r = (if x.tmod s.size ≠ 0 then 1 else 5, s) ∧ GivesED r.1 r.2 w e w' := by
  have hT := hl.most hok
  have hs1 := hok.s1
  have hs2 := hok.s2
  have hCS := hl.t
  have HSz := Lib.hid (strOfNums_size bs)
  obtain ⟨Ak, ck, Aw, cw, rfl, hr0⟩ := h
  have G0 : Hid (DGoing w (((w.alloc (.cells (dCells Ak ck Aw cw s) 31)).alloc (.cells #[.int .i64 F, .int .i64 C] 42)).alloc (.cells zD 31)) w.heap.size F C 0 s bs 0 (dCells Ak ck Aw cw s)) := Lib.hid
    ⟨((Block.new w _ _).alloc _).alloc _, (block_two w _ _ _).alloc _, block_three w _ _ _ _, RDv.below ⟨Ak, ck, Aw, cw, rfl, hr0⟩ (below_three w _ _ _), below_three w _ _ _, fun j hj => absurd hj (by omega), Nat.le_refl _⟩
  obtain ⟨S, hS⟩ : ∃ S, strOfNums bs = S := ⟨_, rfl⟩
  rw [hS] at HSz ⊢
  have hsz : S.size = bs.length := HSz.out
  have hzz : ¬ s.size = 0 := by omega
  unfold zD at G0
  unfold dCells at G0 ⊢
  clear hr0 hS hok hl
  by_cases hm : x.tmod s.size = 0
  · have hin : ¬ (0 ≤ x ∧ x ≤ (T : Int) ∧ 0 ≤ (bs.length : Int) ∧ (bs.length : Int) ≤ (T : Int) - x) := fun h => hno ⟨hm, h⟩
    simp only [if_neg (not_not_intro hm)]
    have hrem := hm
    have h3 : (decide (x < 0) = true) ∨ (decide (x < 0) = false ∧ decide ((T : Int) < x) = true) ∨ (decide (x < 0) = false ∧ decide ((T : Int) < x) = false ∧ decide ((T : Int) - x < (bs.length : Int)) = true) := by
      by_cases h1 : x < 0
      · exact Or.inl (decide_eq_true h1)
      · by_cases h2 : (T : Int) < x
        · exact Or.inr (Or.inl ⟨decide_eq_false h1, decide_eq_true h2⟩)
        · exact Or.inr (Or.inr ⟨decide_eq_false h1, decide_eq_false h2, decide_eq_true (by omega)⟩)
    clear hno hin hm
    generalize bs.length = L at *
    rcases h3 with d1 | ⟨d1, d2⟩ | ⟨d1, d2, d3⟩
    · have b0 : (x.tmod (s.size : Int) != 0) = false := by rw [hrem]; rfl
      clear hrem
      go_enter Tryd.func85, Tryd.ntmps85
      go_wp2_with fail
      generalize hW3 : ((w.alloc _).alloc _).alloc _ = w3 at *
      generalize hg : w.heap.size = g at G0 ⊢
      clear hW3
      have X9 : Block w3.drew g 31 (dCells Ak ck Aw cw s) := Block.drewN G0.out.x 1
      have Y9 : Block w3.drew (g + 1 + 1) 31 zD := Block.drewN G0.out.z 1
      have B9 : Below w.heap.size w w3.drew := below_draws G0.out.b 1
      have RV9 := RDv.below G0.out.v (below_draws (Below.refl _ _) 1)
      refine wp_region_held_drew (S := fun W => Block W g 31 (dCells Ak ck Aw cw s)) (by kernel_rfl) G0.out.x (fun hS => ?_)
      refine wpAnyH_take (i := 0) (oi := ⟨some 41, _, _, _, _, _⟩) (v := .agg (dCells Ak ck Aw cw s)) rfl (by kernel_rfl) (by kernel_rfl) (by kernel_rfl) (fun _ _ _ h => h) (yieldsIf_load_mid (by rfl) _ _ rfl g (0) rfl (dCells Ak ck Aw cw s).toList _ (fun W hW => block_range hW) Tryd.underlying31 rfl (by kernel_rfl)) hS ?_
      try simp only [Act.put, List.setIfInBounds_toArray, List.set_cons_zero, List.set_cons_succ]
      refine wpAnyH_ready (rs := [1]) (by kernel_rfl) (by simp) ?_
      refine AllReadyH.cons rfl (fun K hK => ?_) AllReadyH.nil
      go_simp
      refine hK.out _ _ X9 (fun hS => ?_)
      clear hK K
      try simp only [Act.put, List.setIfInBounds_toArray, List.set_cons_zero, List.set_cons_succ]
      refine wpAnyH_ready (rs := [2]) (by kernel_rfl) (by simp) ?_
      refine AllReadyH.cons rfl (fun K hK => ?_) AllReadyH.nil
      refine step_store_blk rfl _ _ _ rfl (cs := zD) (ds := (dCells Ak ck Aw cw s).toList) (by exact Y9) rfl rfl rfl (by kernel_rfl) (dCells_one _ _ _ _ _) ?_
      intro x9 Z9 g9
      have X10 := X9.grown g9 (by intro h; injection h with h; omega)
      have RV10 := RV9.kept Y9 zD_noText g9
      have B10 := B9.trans (below_of_grown g9 B9.size fun b hb => by injection hb with hb; omega)
      refine hK.out _ _ X10 (fun hS => ?_)
      clear hK K
      try simp only [Act.put, List.setIfInBounds_toArray, List.set_cons_zero, List.set_cons_succ]
      refine wpAnyH_done (by kernel_rfl) ?_ _
      go_wp2_with fail
      exact bodyPost_ret (v := .tuple #[.int .i64 5, .agg (dCells Ak ck Aw cw s)]) (results_tmp_row rfl _ _ (g + 1 + 1) 31 _ (0, 0) _ _ rfl rfl Z9 Tryd.underlying31 rfl (by kernel_rfl)) rfl ⟨(5, s), rfl, _, rfl, RV10, B10⟩
    · have b0 : (x.tmod (s.size : Int) != 0) = false := by rw [hrem]; rfl
      clear hrem
      go_enter Tryd.func85, Tryd.ntmps85
      go_wp2_with fail
      generalize hW3 : ((w.alloc _).alloc _).alloc _ = w3 at *
      generalize hg : w.heap.size = g at G0 ⊢
      clear hW3
      have X9 : Block w3.drew g 31 (dCells Ak ck Aw cw s) := Block.drewN G0.out.x 1
      have Y9 : Block w3.drew (g + 1 + 1) 31 zD := Block.drewN G0.out.z 1
      have B9 : Below w.heap.size w w3.drew := below_draws G0.out.b 1
      have RV9 := RDv.below G0.out.v (below_draws (Below.refl _ _) 1)
      refine wp_region_held_drew (S := fun W => Block W g 31 (dCells Ak ck Aw cw s)) (by kernel_rfl) G0.out.x (fun hS => ?_)
      refine wpAnyH_take (i := 0) (oi := ⟨some 41, _, _, _, _, _⟩) (v := .agg (dCells Ak ck Aw cw s)) rfl (by kernel_rfl) (by kernel_rfl) (by kernel_rfl) (fun _ _ _ h => h) (yieldsIf_load_mid (by rfl) _ _ rfl g (0) rfl (dCells Ak ck Aw cw s).toList _ (fun W hW => block_range hW) Tryd.underlying31 rfl (by kernel_rfl)) hS ?_
      try simp only [Act.put, List.setIfInBounds_toArray, List.set_cons_zero, List.set_cons_succ]
      refine wpAnyH_ready (rs := [1]) (by kernel_rfl) (by simp) ?_
      refine AllReadyH.cons rfl (fun K hK => ?_) AllReadyH.nil
      go_simp
      refine hK.out _ _ X9 (fun hS => ?_)
      clear hK K
      try simp only [Act.put, List.setIfInBounds_toArray, List.set_cons_zero, List.set_cons_succ]
      refine wpAnyH_ready (rs := [2]) (by kernel_rfl) (by simp) ?_
      refine AllReadyH.cons rfl (fun K hK => ?_) AllReadyH.nil
      refine step_store_blk rfl _ _ _ rfl (cs := zD) (ds := (dCells Ak ck Aw cw s).toList) (by exact Y9) rfl rfl rfl (by kernel_rfl) (dCells_one _ _ _ _ _) ?_
      intro x9 Z9 g9
      have X10 := X9.grown g9 (by intro h; injection h with h; omega)
      have RV10 := RV9.kept Y9 zD_noText g9
      have B10 := B9.trans (below_of_grown g9 B9.size fun b hb => by injection hb with hb; omega)
      refine hK.out _ _ X10 (fun hS => ?_)
      clear hK K
      try simp only [Act.put, List.setIfInBounds_toArray, List.set_cons_zero, List.set_cons_succ]
      refine wpAnyH_done (by kernel_rfl) ?_ _
      go_wp2_with fail
      exact bodyPost_ret (v := .tuple #[.int .i64 5, .agg (dCells Ak ck Aw cw s)]) (results_tmp_row rfl _ _ (g + 1 + 1) 31 _ (0, 0) _ _ rfl rfl Z9 Tryd.underlying31 rfl (by kernel_rfl)) rfl ⟨(5, s), rfl, _, rfl, RV10, B10⟩
    · have b0 : (x.tmod (s.size : Int) != 0) = false := by rw [hrem]; rfl
      have hx0 : 0 ≤ x := by have := of_decide_eq_false d1; omega
      have hx1 : x ≤ (T : Int) := by have := of_decide_eq_false d2; omega
      obtain ⟨y, rfl⟩ : ∃ y : Nat, x = (y : Int) := ⟨x.toNat, by omega⟩
      have d2 : decide (T < y) = false := decide_eq_false (by omega)
      clear hx0
      go_enter Tryd.func85, Tryd.ntmps85
      go_wp2_with fail
      generalize hW3 : ((w.alloc _).alloc _).alloc _ = w3 at *
      generalize hg : w.heap.size = g at G0 ⊢
      clear hW3
      have X9 : Block w3.drew g 31 (dCells Ak ck Aw cw s) := Block.drewN G0.out.x 1
      have Y9 : Block w3.drew (g + 1 + 1) 31 zD := Block.drewN G0.out.z 1
      have B9 : Below w.heap.size w w3.drew := below_draws G0.out.b 1
      have RV9 := RDv.below G0.out.v (below_draws (Below.refl _ _) 1)
      refine wp_region_held_drew (S := fun W => Block W g 31 (dCells Ak ck Aw cw s)) (by kernel_rfl) G0.out.x (fun hS => ?_)
      refine wpAnyH_take (i := 0) (oi := ⟨some 41, _, _, _, _, _⟩) (v := .agg (dCells Ak ck Aw cw s)) rfl (by kernel_rfl) (by kernel_rfl) (by kernel_rfl) (fun _ _ _ h => h) (yieldsIf_load_mid (by rfl) _ _ rfl g (0) rfl (dCells Ak ck Aw cw s).toList _ (fun W hW => block_range hW) Tryd.underlying31 rfl (by kernel_rfl)) hS ?_
      try simp only [Act.put, List.setIfInBounds_toArray, List.set_cons_zero, List.set_cons_succ]
      refine wpAnyH_ready (rs := [1]) (by kernel_rfl) (by simp) ?_
      refine AllReadyH.cons rfl (fun K hK => ?_) AllReadyH.nil
      go_simp
      refine hK.out _ _ X9 (fun hS => ?_)
      clear hK K
      try simp only [Act.put, List.setIfInBounds_toArray, List.set_cons_zero, List.set_cons_succ]
      refine wpAnyH_ready (rs := [2]) (by kernel_rfl) (by simp) ?_
      refine AllReadyH.cons rfl (fun K hK => ?_) AllReadyH.nil
      refine step_store_blk rfl _ _ _ rfl (cs := zD) (ds := (dCells Ak ck Aw cw s).toList) (by exact Y9) rfl rfl rfl (by kernel_rfl) (dCells_one _ _ _ _ _) ?_
      intro x9 Z9 g9
      have X10 := X9.grown g9 (by intro h; injection h with h; omega)
      have RV10 := RV9.kept Y9 zD_noText g9
      have B10 := B9.trans (below_of_grown g9 B9.size fun b hb => by injection hb with hb; omega)
      refine hK.out _ _ X10 (fun hS => ?_)
      clear hK K
      try simp only [Act.put, List.setIfInBounds_toArray, List.set_cons_zero, List.set_cons_succ]
      refine wpAnyH_done (by kernel_rfl) ?_ _
      go_wp2_with fail
      exact bodyPost_ret (v := .tuple #[.int .i64 5, .agg (dCells Ak ck Aw cw s)]) (results_tmp_row rfl _ _ (g + 1 + 1) 31 _ (0, 0) _ _ rfl rfl Z9 Tryd.underlying31 rfl (by kernel_rfl)) rfl ⟨(5, s), rfl, _, rfl, RV10, B10⟩
  · simp only [if_pos hm]
    have b0 : (x.tmod (s.size : Int) != 0) = true := by simpa using hm
    clear hno hm
    go_enter Tryd.func85, Tryd.ntmps85
    go_wp2_with fail
    generalize hW3 : ((w.alloc _).alloc _).alloc _ = w3 at *
    generalize hg : w.heap.size = g at G0 ⊢
    clear hW3
    have X9 : Block w3.drew g 31 (dCells Ak ck Aw cw s) := Block.drewN G0.out.x 1
    have Y9 : Block w3.drew (g + 1 + 1) 31 zD := Block.drewN G0.out.z 1
    have B9 : Below w.heap.size w w3.drew := below_draws G0.out.b 1
    have RV9 := RDv.below G0.out.v (below_draws (Below.refl _ _) 1)
    refine wp_region_held_drew (S := fun W => Block W g 31 (dCells Ak ck Aw cw s)) (by kernel_rfl) G0.out.x (fun hS => ?_)
    refine wpAnyH_take (i := 0) (oi := ⟨some 20, _, _, _, _, _⟩) (v := .agg (dCells Ak ck Aw cw s)) rfl (by kernel_rfl) (by kernel_rfl) (by kernel_rfl) (fun _ _ _ h => h) (yieldsIf_load_mid (by rfl) _ _ rfl g (0) rfl (dCells Ak ck Aw cw s).toList _ (fun W hW => block_range hW) Tryd.underlying31 rfl (by kernel_rfl)) hS ?_
    try simp only [Act.put, List.setIfInBounds_toArray, List.set_cons_zero, List.set_cons_succ]
    refine wpAnyH_ready (rs := [1]) (by kernel_rfl) (by simp) ?_
    refine AllReadyH.cons rfl (fun K hK => ?_) AllReadyH.nil
    go_simp
    refine hK.out _ _ X9 (fun hS => ?_)
    clear hK K
    try simp only [Act.put, List.setIfInBounds_toArray, List.set_cons_zero, List.set_cons_succ]
    refine wpAnyH_ready (rs := [2]) (by kernel_rfl) (by simp) ?_
    refine AllReadyH.cons rfl (fun K hK => ?_) AllReadyH.nil
    refine step_store_blk rfl _ _ _ rfl (cs := zD) (ds := (dCells Ak ck Aw cw s).toList) (by exact Y9) rfl rfl rfl (by kernel_rfl) (dCells_one _ _ _ _ _) ?_
    intro x9 Z9 g9
    have X10 := X9.grown g9 (by intro h; injection h with h; omega)
    have RV10 := RV9.kept Y9 zD_noText g9
    have B10 := B9.trans (below_of_grown g9 B9.size fun b hb => by injection hb with hb; omega)
    refine hK.out _ _ X10 (fun hS => ?_)
    clear hK K
    try simp only [Act.put, List.setIfInBounds_toArray, List.set_cons_zero, List.set_cons_succ]
    refine wpAnyH_done (by kernel_rfl) ?_ _
    go_wp2_with fail
    exact bodyPost_ret (v := .tuple #[.int .i64 1, .agg (dCells Ak ck Aw cw s)]) (results_tmp_row rfl _ _ (g + 1 + 1) 31 _ (0, 0) _ _ rfl rfl Z9 Tryd.underlying31 rfl (by kernel_rfl)) rfl ⟨(1, s), rfl, _, rfl, RV10, B10⟩

theorem rpwrite_any (v : Value) (s : Dv) (F C : Int) (T : Nat) (x : Int) (bs : List Int) (w : World) (h : RDv w v s) (hok : s.Ok) (hl : Lies s F C T) (hx : -9223372036854775808 ≤ x ∧ x ≤ 9223372036854775807) (hbl : bs.length ≤ 1000000) (hof : s.offs ≤ 100000000) (hwr : s.wr ≤ 100000000) :
    Calls Tryd.prog 85 #[v, .agg #[.int .i64 F, .int .i64 C], .int .i64 x, .string (strOfNums bs)] w fun e w' => ∃ r, PWrite s F T x bs r ∧ GivesED r.1 r.2 w e w' := by
  unfold PWrite
  by_cases hm : x.tmod s.size = 0
  · simp only [if_neg (not_not_intro hm)]
    by_cases hin : 0 ≤ x ∧ x ≤ (T : Int) ∧ 0 ≤ (bs.length : Int) ∧ (bs.length : Int) ≤ (T : Int) - x
    · simp only [if_pos hin]
      obtain ⟨b, rfl⟩ : ∃ b : Nat, x = (b : Int) := ⟨x.toNat, by omega⟩
      have hb : b % s.size = 0 := by have h1 : ((b % s.size : Nat) : Int) = 0 := by rw [← hm]; exact Int.ofNat_tmod b s.size
                                     omega
      exact rpwrite_yes v s F C T b bs w h hok hl hbl hof hwr hb (by omega)
    · simp only [if_neg hin]
      have := rpwrite_no v s F C T x bs w h hok hl hx hbl (fun h => hin h.2)
      rw [if_neg (not_not_intro hm)] at this
      exact this
  · simp only [if_pos hm]
    have := rpwrite_no v s F C T x bs w h hok hl hx hbl (fun h => hm h.1)
    rw [if_pos hm] at this
    exact this
end Go.Proofs.YtpnodocjpedcmaaDoor.Pt

namespace Go.Proofs.YtpnodocjpedcmaaDoor.Pt
open Go.ChangeShapes Go.WideShapes Go.ChangeAt Go.RowKit Go.Proofs.YtpnodocjpedcmaaDoor.Kit Go.Proofs.YtpnodocjpedcmaaDoor.Sec

/-- Before a sector is read. -/
structure RGoing (w wr : World) (g : Nat) (F C : Int) (s : Dv) (cs : Array Value) : Prop where
  x : Block wr g 31 cs
  r : Block wr (g + 1) 42 #[.int .i64 F, .int .i64 C]
  v : RDv wr (.agg cs) s
  b : Below w.heap.size w wr
theorem RGoing.below {w wr w' : World} {g : Nat} {F C : Int} {s : Dv} {cs : Array Value} (h : RGoing w wr g F C s cs) (hb : Below wr.heap.size wr w') : RGoing w w' g F C s cs :=
  ⟨h.x.below hb h.x.lt, h.r.below hb h.r.lt, h.v.below hb, h.b.trans (hb.mono h.b.size)⟩
theorem str_zero (s : Dv) (F : Int) (b : Nat) : strOfNums (rowP s F b 0) = ⟨#[]⟩ := rfl

set_option maxRecDepth 100000 in
set_option maxHeartbeats 6400000 in
theorem rpread_yes (v : Value) (s : Dv) (F C : Int) (T b N : Nat) (w : World) (h : RDv w v s) (hok : s.Ok) (hwh : Whole s) (hl : Lies s F C T) (hin : b ≤ T ∧ N ≤ T - b) :
    Calls Tryd.prog 87 #[v, .agg #[.int .i64 F, .int .i64 C], .int .i64 (b : Int), .int .i64 (N : Int)] w fun e w' => ∃ r, ReadsP s F b N r ∧ GivesS r.1 r.2 w e w' := by
  have hT := hl.most hok
  have hs1 := hok.s1
  have hs2 := hok.s2
  have hc1 := hl.c1
  have hf0 := hl.f0
  have hfc := hl.fc
  have hct := hok.c2
  have hCS := hl.t
  have GR := Lib.hid (fun W v i hv => rread_any v s i W hv hok)
  have HWH := Lib.hid hwh
  obtain ⟨Ak, ck, Aw, cw, rfl, hr0⟩ := h
  have G0 : Hid (RGoing w ((w.alloc (.cells (dCells Ak ck Aw cw s) 31)).alloc (.cells #[.int .i64 F, .int .i64 C] 42)) w.heap.size F C s (dCells Ak ck Aw cw s)) := Lib.hid
    ⟨(Block.new w _ _).alloc _, block_two w _ _ _, RDv.below ⟨Ak, ck, Aw, cw, rfl, hr0⟩ (below_two w _ _), below_two w _ _⟩
  have HZ0 : Hid (∀ W g, Block W g 31 (dCells Ak ck Aw cw s) → W.cell? ⟨g, 0, none⟩ = some (.int .i64 (s.size : Int))) := Lib.hid (fun W g hW => hW.cell 0)
  obtain ⟨z, hz⟩ : ∃ z, s.size = z := ⟨_, rfl⟩
  have HZ := Lib.hid hz
  have d1 : decide ((b : Int) < 0) = false := decide_eq_false (by omega)
  have d4 : decide ((N : Int) < 0) = false := decide_eq_false (by omega)
  have d2 : decide (T < b) = false := decide_eq_false (by omega)
  have d3 : decide ((T : Int) - (b : Int) < (N : Int)) = false := decide_eq_false (by omega)
  unfold dCells at G0 HZ0 ⊢
  rw [hz] at hs1 hs2 hCS HZ0 G0 ⊢
  have hzz : ¬ z = 0 := by omega
  clear hr0 hl hok hwh hz
  go_enter Tryd.func87, Tryd.ntmps87
  go_wp2_with fail
  generalize hW3 : (w.alloc _).alloc _ = w3 at *
  generalize hg : w.heap.size = g at G0 ⊢
  have HG := Lib.hid hg
  clear hW3 hg d1 d2 d3 d4
  go_loopw [11, 12] (fun t q wr => ∃ (i k : Nat), (i : Int) ≤ C ∧ k = min N (i * z - b) ∧ q = .int .i64 i ∧ t = .string (strOfNums (rowP s F b k)) ∧ OkP s F b k ∧ RGoing w wr g F C s (dCells Ak ck Aw cw s)) (fun _ q _ => C.toNat - (intOf q).toNat)
  case atStart => exact ⟨0, 0, by omega, by omega, rfl, rfl, fun j hj => absurd hj (by omega), by have := G0.out; unfold dCells; rw [HZ.out]; exact this⟩
  case round =>
    clear G0
    obtain ⟨i, k, hi, hk, rfl, rfl, hok, G⟩ := hrel
    have x0 : wr.cell? ⟨g, 0, none⟩ = some (.int .i64 (z : Int)) := HZ0.out wr g (by have := G.x; unfold dCells at this; rw [HZ.out] at this; exact this)
    have r0 : wr.cell? ⟨g + 1, 0, none⟩ = some (.int .i64 F) := G.r.cell 0
    have r1 : wr.cell? ⟨g + 1, 1, none⟩ = some (.int .i64 C) := G.r.cell 1
    obtain ⟨K, hK⟩ : ∃ K : Nat, i * z = K := ⟨_, rfl⟩
    have hKz : (i : Int) * (z : Int) = (K : Int) := by rw [← hK, Int.natCast_mul]
    have hKz1 : ((i : Int) + 1) * (z : Int) = (K : Int) + (z : Int) := by rw [Int.add_mul, hKz, Int.one_mul]
    have hKT : K ≤ T := by
      have h1 : (i : Int) * (z : Int) ≤ C * (z : Int) := Int.mul_le_mul_of_nonneg_right hi (by omega)
      omega
    rw [hK] at hk
    have XG := Lib.hid G
    have HK := Lib.hid hk
    have HOK := Lib.hid hok
    have HKK := Lib.hid hK
    have hkN : k ≤ N := by omega
    have hi6 : i ≤ 1048576 := by omega
    by_cases hlt : (i : Int) < C
    · have d0 : decide ((i : Int) < C) = true := decide_eq_true hlt
      have hKT1 : K + z ≤ T := by
        have h1 : ((i : Int) + 1) * (z : Int) ≤ C * (z : Int) := Int.mul_le_mul_of_nonneg_right (by omega) (by omega)
        omega
      obtain ⟨lo, hlo⟩ : ∃ lo : Nat, max b K = lo := ⟨_, rfl⟩
      have hlo1 : max (b : Int) (K : Int) = (lo : Int) := by omega
      obtain ⟨hi', hhi⟩ : ∃ hi' : Nat, min (b + N) (K + z) = hi' := ⟨_, rfl⟩
      have hhi1 : min ((b : Int) + (N : Int)) ((K : Int) + (z : Int)) = (hi' : Int) := by omega
      have hKS : (i + 1) * z = K + z := by rw [Nat.add_mul, HKK.out, Nat.one_mul]
      have hb1 : lo ≤ T := by omega
      have hb2 : hi' ≤ T := by omega
      by_cases hc : hi' ≤ lo
      · have d1 : decide (hi' ≤ lo) = true := decide_eq_true hc
        have hk1 : k = min N ((i + 1) * z - b) := by rw [hKS]; omega
        have HK1 := Lib.hid hk1
        clear hk1 hK hk hok hKS hlo hhi G
        go_wp2_with fail
        go_roundw
        case rel => exact ⟨i + 1, k, by omega, HK1.out, by go_num, rfl, HOK.out, XG.out⟩
        case measure => simp [intOf]; omega
      · have d1 : decide (hi' ≤ lo) = false := decide_eq_false hc
        obtain ⟨xs, E, hsec⟩ : ∃ xs E, secP s F (b + k) = (xs, E) := ⟨_, _, rfl⟩
        have hbk : b + k = lo := by omega
        have hdv : (b + k) / z = i := by
          rw [hbk]
          exact Nat.div_eq_of_lt_le (by rw [HKK.out]; omega) (by rw [hKS]; omega)
        have hmd : (b + k) % z = lo - K := by
          have := Nat.div_add_mod (b + k) z
          rw [hdv, Nat.mul_comm, HKK.out] at this
          omega
        have GRD : Hid (∀ W, RDv W (.agg (dCells Ak ck Aw cw s)) s → Calls Tryd.prog 51 #[.agg (dCells Ak ck Aw cw s), .int .i64 (F + (i : Int))] W (GivesS xs E W)) := Lib.hid (fun W hv => by
          have := GR.out W _ (F + (i : Int)) hv
          have e : s.read (F + (i : Int)) = (xs, E) := by
            rw [← hsec]
            unfold secP
            rw [HZ.out, hdv]
          rwa [e] at this)
        have HS := Lib.hid hsec
        obtain ⟨r, hr⟩ : ∃ r : Nat, lo - K = r := ⟨_, rfl⟩
        obtain ⟨m, hm⟩ : ∃ m : Nat, hi' - lo = m := ⟨_, rfl⟩
        have hlr : (lo : Int) - (K : Int) = (r : Int) := by omega
        have hhr : (hi' : Int) - (K : Int) = (r : Int) + (m : Int) := by omega
        have hrm : r + m ≤ z := by omega
        have HM1 : Hid ((b + k) % z = r) := Lib.hid (by rw [hmd, hr])
        have HK1 : Hid (k + m = min N ((i + 1) * z - b)) := Lib.hid (by rw [hKS]; omega)
        have hkm : k < N := by omega
        have HB := Lib.hid (block_range (L := (dCells Ak ck Aw cw s).toList) XG.out.x)
        by_cases hE : E = 0
        · subst hE
          obtain ⟨t1, ht1⟩ : ∃ t1, strOfNums (rowP s F b k) = t1 := ⟨_, rfl⟩
          have ht1z : t1.size = k := by rw [← ht1, strOfNums_size, rowP_length]
          obtain ⟨r2, hr2⟩ : ∃ r2, r + m = r2 := ⟨_, rfl⟩
          have hhr2 : (hi' : Int) - (K : Int) = (r2 : Int) := by omega
          have hxl : xs.length = z := by
            have := (HWH.out (F + ((b + k) / s.size : Nat)) xs HS.out).1
            rwa [HZ.out] at this
          have hcut1 := piece_cut (s := s) (F := F) (p := b + k) (m := m) (xs := xs) (by rw [hxl, HZ.out]) HS.out (by rw [HZ.out, HM1.out]; omega)
          rw [HZ.out, HM1.out, hr2] at hcut1
          have hjoin1 := row_join s F b k m
          have HOK1 := Lib.hid (okP_add (m := m) HOK.out (by rw [HZ.out, HM1.out]; omega) (by rw [HS.out]))
          obtain ⟨S1, hS1⟩ : ∃ S1, strOfNums xs = S1 := ⟨_, rfl⟩
          have hS1z : S1.size = z := by rw [← hS1, strOfNums_size, hxl]
          obtain ⟨P1, hP1⟩ : ∃ P1, strOfNums (rowP s F (b + k) m) = P1 := ⟨_, rfl⟩
          have hP1z : P1.size = m := by rw [← hP1, strOfNums_size, rowP_length]
          rw [hS1, hP1] at hcut1
          rw [hP1, ht1] at hjoin1
          rw [ht1]
          obtain ⟨t2, ht2⟩ : ∃ t2, strOfNums (rowP s F b (k + m)) = t2 := ⟨_, rfl⟩
          rw [ht2] at hjoin1
          have hadd : ∀ W, (Op.stringOp .add t1 P1).run Tryd.prog W = .ok (.string t2) W := fun W => by
            rw [← hjoin1]
            exact run_string_add_sum W t1 P1 (by omega)
          have HT2 := Lib.hid ht2
          have HS1 := Lib.hid hS1
          have hr2z : r2 ≤ z := by omega
          have hrr2 : r ≤ r2 := by omega
          clear hsec hK hk hok hKS hlo hhi G hbk hdv hmd hr hm ht1 hc hxl hS1 hP1 hjoin1 ht2 hhr hr2 hP1z
          go_wp2_with (first
            | (have _t := x0; refine wpList_load_midV (by rfl) _ _ rfl g 0 rfl (dCells Ak ck Aw cw s).toList HB.out Tryd.underlying31 rfl (by kernel_rfl) ?_; clear _t)
            | (go_at_call 51; (with_reducible refine (GRD.out _ XG.out.v).mono ?_); rintro e x1 ⟨rfl, hb1⟩; rw [HS1.out]; have XG1 := Lib.hid (XG.out.below hb1); have y0 : x1.cell? ⟨g, 0, none⟩ = some (.int .i64 (z : Int)) := HZ0.out x1 g (by have := XG1.out.x; unfold dCells at this; rw [HZ.out] at this; exact this); clear x0 r0 r1))
          go_roundw
          case rel => exact ⟨i + 1, k + m, by omega, HK1.out, by go_num, by rw [HT2.out], HOK1.out, XG1.out⟩
          case measure => simp [intOf]; omega
        · have d5 : (E != 0) = true := by simpa using hE
          clear hsec hK hk hok hKS hlo hhi G hbk hdv hmd hr hm hc hhr
          go_wp2_with (first
            | (have _t := x0; refine wpList_load_midV (by rfl) _ _ rfl g 0 rfl (dCells Ak ck Aw cw s).toList HB.out Tryd.underlying31 rfl (by kernel_rfl) ?_; clear _t)
            | (go_at_call 51; (with_reducible refine (GRD.out _ XG.out.v).mono ?_); rintro e x1 ⟨rfl, hb1⟩))
          go_ret2
          exact ⟨([], E), Or.inl ⟨k, hkm, HOK.out, by rw [HS.out]; exact hE, by rw [HS.out]⟩, rfl, (XG.out.below hb1).b⟩
    · have d0 : decide ((i : Int) < C) = false := decide_eq_false hlt
      have hkN2 : k = N := by
        have h1 : (i : Int) = C := by omega
        have h2 : (K : Int) = (T : Int) := by rw [← hKz, h1, hCS]
        omega
      have HKN := Lib.hid hkN2
      clear hK hk hok G hKz hKz1 hkN2 hkN
      go_wp2_with fail
      go_ret2
      exact ⟨rowP s F b N, 0, Or.inr ⟨by rw [← HKN.out]; exact HOK.out, rfl⟩, by rw [HKN.out]; rfl, XG.out.b⟩

set_option maxRecDepth 100000 in
set_option maxHeartbeats 6400000 in
theorem rpread_no (v : Value) (s : Dv) (F C : Int) (T : Nat) (x n : Int) (w : World) (h : RDv w v s) (hok : s.Ok) (hl : Lies s F C T) (hx : -9223372036854775808 ≤ x ∧ x ≤ 9223372036854775807)
    (hno : ¬ (0 ≤ x ∧ x ≤ T ∧ 0 ≤ n ∧ n ≤ T - x)) :
    Calls Tryd.prog 87 #[v, .agg #[.int .i64 F, .int .i64 C], .int .i64 x, .int .i64 n] w (GivesS [] 5 w) := by
  have hT := hl.most hok
  have hs1 := hok.s1
  have hs2 := hok.s2
  have hCS := hl.t
  have HS := Lib.hid str_nil
  have B2 := Lib.hid (fun o p => below_two w o p)
  obtain ⟨Ak, ck, Aw, cw, rfl, hr0⟩ := h
  have h3 : (decide (x < 0) = true) ∨ (decide (x < 0) = false ∧ decide (n < 0) = true) ∨ (decide (x < 0) = false ∧ decide (n < 0) = false ∧ decide ((T : Int) < x) = true) ∨ (decide (x < 0) = false ∧ decide (n < 0) = false ∧ decide ((T : Int) < x) = false ∧ decide ((T : Int) - x < n) = true) := by
    by_cases h1 : x < 0
    · exact Or.inl (decide_eq_true h1)
    · by_cases h4 : n < 0
      · exact Or.inr (Or.inl ⟨decide_eq_false h1, decide_eq_true h4⟩)
      · by_cases h2 : (T : Int) < x
        · exact Or.inr (Or.inr (Or.inl ⟨decide_eq_false h1, decide_eq_false h4, decide_eq_true h2⟩))
        · exact Or.inr (Or.inr (Or.inr ⟨decide_eq_false h1, decide_eq_false h4, decide_eq_false h2, decide_eq_true (by omega)⟩))
  unfold dCells
  clear hr0 hl hok hno
  rcases h3 with d1 | ⟨d1, d2⟩ | ⟨d1, d2, d3⟩ | ⟨d1, d2, d3, d4⟩
  · go_enter Tryd.func87, Tryd.ntmps87
    go_wp2_with fail
    go_ret2
    exact ⟨by rw [HS.out]; rfl, B2.out _ _⟩
  · go_enter Tryd.func87, Tryd.ntmps87
    go_wp2_with fail
    go_ret2
    exact ⟨by rw [HS.out]; rfl, B2.out _ _⟩
  · go_enter Tryd.func87, Tryd.ntmps87
    go_wp2_with fail
    go_ret2
    exact ⟨by rw [HS.out]; rfl, B2.out _ _⟩
  · have hx0 : 0 ≤ x := by have := of_decide_eq_false d1; omega
    have hx1 : x ≤ (T : Int) := by have := of_decide_eq_false d3; omega
    obtain ⟨y, rfl⟩ : ∃ y : Nat, x = (y : Int) := ⟨x.toNat, by omega⟩
    have d3 : decide (T < y) = false := decide_eq_false (by omega)
    clear hx0
    go_enter Tryd.func87, Tryd.ntmps87
    go_wp2_with fail
    go_ret2
    exact ⟨by rw [HS.out]; rfl, B2.out _ _⟩

theorem rpread_any (v : Value) (s : Dv) (F C : Int) (T : Nat) (x n : Int) (w : World) (h : RDv w v s) (hok : s.Ok) (hwh : Whole s) (hl : Lies s F C T) (hx : -9223372036854775808 ≤ x ∧ x ≤ 9223372036854775807) :
    Calls Tryd.prog 87 #[v, .agg #[.int .i64 F, .int .i64 C], .int .i64 x, .int .i64 n] w fun e w' => ∃ r, PRead s F T x n r ∧ GivesS r.1 r.2 w e w' := by
  unfold PRead
  by_cases hin : 0 ≤ x ∧ x ≤ (T : Int) ∧ 0 ≤ n ∧ n ≤ (T : Int) - x
  · simp only [if_pos hin]
    obtain ⟨b, rfl⟩ : ∃ b : Nat, x = (b : Int) := ⟨x.toNat, by omega⟩
    obtain ⟨N, rfl⟩ : ∃ N : Nat, n = (N : Int) := ⟨n.toNat, by omega⟩
    exact rpread_yes v s F C T b N w h hok hwh hl (by omega)
  · simp only [if_neg hin]
    exact (rpread_no v s F C T x n w h hok hl hx hin).mono fun e w' h => ⟨([], 5), rfl, h⟩
end Go.Proofs.YtpnodocjpedcmaaDoor.Pt

namespace Go.Proofs.YtpnodocjpedcmaaDoor.Pt
open Go.ChangeShapes Go.WideShapes Go.ChangeAt Go.RowKit Go.Proofs.YtpnodocjpedcmaaDoor.Kit Go.Proofs.YtpnodocjpedcmaaDoor.Sec

/-- A step: its kind, a place, a number, bytes, picks. -/
structure Step7 where
  k : Int
  x : Int
  n : Int
  A : Option Addr
  cap : Nat
  bs : List Int
  A2 : Option Addr
  cap2 : Nat
  zs : List Int
def Step7.cells (s : Step7) : List Value := [.int .i64 s.k, .int .i64 s.x, .int .i64 s.n, .slice s.A s.bs.length s.cap, .slice s.A2 s.zs.length s.cap2]
/-- How it lies in memory. -/
def StepIn (w : World) (B : Nat) (s : Step7) (cs : List Value) : Prop :=
  cs = s.cells ∧ (Lit.int .i64 s.k).wf = true ∧ (Lit.int .i64 s.x).wf = true ∧ (Lit.int .i64 s.n).wf = true ∧ (s.bs.length ≤ s.cap ∧ s.cap ≤ maxLen ∧ Octets s.bs ∧ Holds w B .u8 s.A s.bs) ∧ (s.zs.length ≤ s.cap2 ∧ s.cap2 ≤ maxLen ∧ Octets s.zs ∧ Holds w B .u8 s.A2 s.zs)
def HoldsQ (w : World) (B : Nat) (A : Option Addr) (ss : List Step7) : Prop := HoldsE (StepIn w B) 5 w B A ss

section
variable {H : Type} {enc : TypeId × Value → H} {P : Program} {w : World} {b0 : Nat}
theorem read_step {t : TypeId} {fs : Array Field} (ht : P.underlying t = some (.struct fs)) (h0 : isInt P fs 0 0 .i64 = true) (h1 : isInt P fs 1 1 .i64 = true) (h2 : isInt P fs 2 2 .i64 = true) (h3 : isBytes P fs 3 3 = true) (h4 : isBytes P fs 4 4 = true)
    (hsz : fs.size = 5) (hc : P.cellsOf t = 5) {n : Nat} {cs : List Value} {y : DataW H × List MemPlace} (h : DataW.trod enc P w 0 (fun _ => true) true n t cs = some y) (hlt : ∀ x ∈ y.2, x.block < w.heap.size) :
    ∃ s : Step7, StepIn w w.heap.size s cs := by
  obtain ⟨xs, m, _, hx, hl, hxl, hg⟩ := DataW.trod_struct ht h
  obtain ⟨f0, e0, o0, s0, u0⟩ := isInt_of h0
  obtain ⟨f1, e1, o1, s1, u1⟩ := isInt_of h1
  obtain ⟨f2, e2, o2, s2, u2⟩ := isInt_of h2
  obtain ⟨f3, ea, e3, o3, s3, u3, ua, ca⟩ := isBytes_of h3
  obtain ⟨f4, e, e4, o4, s4, u4, ue, ce⟩ := isBytes_of h4
  have x0 : xs[0]? = some (xs[0]'(by omega)) := List.getElem?_eq_getElem (by omega)
  have x1 : xs[1]? = some (xs[1]'(by omega)) := List.getElem?_eq_getElem (by omega)
  have x2 : xs[2]? = some (xs[2]'(by omega)) := List.getElem?_eq_getElem (by omega)
  have x3 : xs[3]? = some (xs[3]'(by omega)) := List.getElem?_eq_getElem (by omega)
  have x4 : xs[4]? = some (xs[4]'(by omega)) := List.getElem?_eq_getElem (by omega)
  have g0 := hg 0 f0 e0
  have g1 := hg 1 f1 e1
  have g2 := hg 2 f2 e2
  have g3 := hg 3 f3 e3
  have g4 := hg 4 f4 e4
  rw [o0, s0, x0] at g0
  rw [o1, s1, x1] at g1
  rw [o2, s2, x2] at g2
  rw [o3, s3, x3] at g3
  rw [o4, s4, x4] at g4
  obtain ⟨a, ha, _, wa⟩ := DataW.trod_int u0 g0
  obtain ⟨b, hb, _, wb⟩ := DataW.trod_int u1 g1
  obtain ⟨x, hxx, _, wx⟩ := DataW.trod_int u2 g2
  obtain ⟨A, cap, zs, hs0, r1, r2, r3, r4⟩ := octets_of u3 ua ca g3 (fun p hp => hlt p (by
    have hps : y.2 = xs.flatMap (·.2) := congrArg Prod.snd hx
    rw [hps]
    exact List.mem_flatMap.2 ⟨_, List.getElem_mem _, hp⟩))
  obtain ⟨A2, cap2, zs2, hs, t1, t2, t3, t4⟩ := octets_of u4 ue ce g4 (fun p hp => hlt p (by
    have hps : y.2 = xs.flatMap (·.2) := congrArg Prod.snd hx
    rw [hps]
    exact List.mem_flatMap.2 ⟨_, List.getElem_mem _, hp⟩))
  refine ⟨⟨a, b, x, A, cap, zs, A2, cap2, zs2⟩, ?_, wa, wb, wx, ⟨r1, r2, r3, r4⟩, ⟨t1, t2, t3, t4⟩⟩
  have q0 := get_of_one ha
  have q1 := get_of_one hb
  have q2 := get_of_one hxx
  have q3 := get_of_one hs0
  have q4 := get_of_one hs
  have hl5 : cs.length = 5 := by omega
  match cs, hl5, q0, q1, q2, q3, q4 with
  | [y0, y1, y2, y3, y4], _, q0, q1, q2, q3, q4 =>
    simp at q0 q1 q2 q3 q4
    subst q0 q1 q2 q3 q4
    rfl
/-- A slice of steps that came in. -/
theorem open_steps7 {t e : TypeId} {fs : Array Field} (ht : P.underlying t = some (.slice e)) (he : P.underlying e = some (.struct fs)) (h0 : isInt P fs 0 0 .i64 = true) (h1 : isInt P fs 1 1 .i64 = true) (h2 : isInt P fs 2 2 .i64 = true) (h3 : isBytes P fs 3 3 = true) (h4 : isBytes P fs 4 4 = true)
    (hsz : fs.size = 5) (hc : P.cellsOf e = 5) {v : Value} {d : DataW H} {ps : List MemPlace} (hval : Value.okWide P w .any b0 t v) (h : DataW.Trod enc P w 0 (fun _ => true) true t v d ps) (hlt : ∀ x ∈ ps, x.block < w.heap.size) :
    ∃ (A : Option Addr) (cap : Nat) (ss : List Step7), v = .slice A ss.length cap ∧ ss.length ≤ cap ∧ cap ≤ maxLen ∧ HoldsQ w w.heap.size A ss :=
  open_slice_of (StepIn w w.heap.size) 5 ht hc (by omega) (fun _ _ _ h hp => read_step he h0 h1 h2 h3 h4 hsz hc h hp) hval h hlt
end

/-- The steps at A, element by element. -/
theorem stepAt7 {w : World} {B : Nat} {A : Option Addr} {ss : List Step7} (h : HoldsQ w B A ss) {i : Nat} (hi : i < ss.length) :
    ∃ b off : Nat, A = some ⟨b, off, none⟩ ∧ b < B ∧ w.rangeAt b (off + i * 5) ss[i].cells ∧ (Lit.int .i64 ss[i].k).wf = true ∧ (Lit.int .i64 ss[i].x).wf = true ∧ (Lit.int .i64 ss[i].n).wf = true ∧
      (ss[i].bs.length ≤ ss[i].cap ∧ ss[i].cap ≤ maxLen ∧ Octets ss[i].bs ∧ Holds w B .u8 ss[i].A ss[i].bs) ∧ (ss[i].zs.length ≤ ss[i].cap2 ∧ ss[i].cap2 ≤ maxLen ∧ Octets ss[i].zs ∧ Holds w B .u8 ss[i].A2 ss[i].zs) := by
  obtain ⟨b, off, rfl, hb, hc⟩ := h (by omega)
  obtain ⟨cs, ⟨rfl, r1, r2, r3, r4, r5⟩, _, hcs⟩ := hc i ss[i] (List.getElem?_eq_getElem hi)
  exact ⟨b, off, rfl, hb, fun j c hj => hcs j c hj, r1, r2, r3, r4, r5⟩
theorem HoldsQ.below {w w' : World} {B : Nat} {A : Option Addr} {ss : List Step7} (h : HoldsQ w B A ss) (hb : Below B w w') : HoldsQ w' B A ss :=
  h.keep (fun _ hp => hb.cell hp) fun _ _ ⟨r0, r1, r2, r3, ⟨r4, r5, r6, r7⟩, ⟨t4, t5, t6, t7⟩⟩ => ⟨r0, r1, r2, r3, ⟨r4, r5, r6, r7.below hb⟩, ⟨t4, t5, t6, t7.below hb⟩⟩
end Go.Proofs.YtpnodocjpedcmaaDoor.Pt

namespace Go.Proofs.YtpnodocjpedcmaaDoor.Pt
open Go.ChangeShapes Go.WideShapes Go.ChangeAt Go.RowKit Go.Proofs.YtpnodocjpedcmaaDoor.Kit
open Go.Proofs.YtpnodocjpedcmaaDoor.Sec (Tells)

def bigB (s : Step7) : Bool := decide (2000 < s.bs.length) || decide (60 < s.zs.length)
def greatB (ss : List Step7) : Bool := decide (40 < ss.length) || ss.any bigB
theorem great_no {ss : List Step7} (h : greatB ss = false) : ss.length ≤ 40 ∧ ∀ s ∈ ss, s.bs.length ≤ 2000 ∧ s.zs.length ≤ 60 := by
  unfold greatB at h
  rw [Bool.or_eq_false_iff] at h
  refine ⟨by have := of_decide_eq_false h.1; omega, fun s hs => ?_⟩
  have := (List.any_eq_false.1 h.2 s hs |> Bool.eq_false_iff.2)
  unfold bigB at this
  rw [Bool.or_eq_false_iff] at this
  have h1 := of_decide_eq_false this.1
  have h2 := of_decide_eq_false this.2
  omega

end Go.Proofs.YtpnodocjpedcmaaDoor.Pt

namespace Go.Proofs.YtpnodocjpedcmaaDoor.Sec
open Go.ChangeShapes Go.WideShapes Go.ChangeAt Go.RowKit Go.Proofs.YtpnodocjpedcmaaDoor.Kit

section
variable {w w' : World} {I : Nat → Prop} {a mk mw : Nat} {s : Dv}
theorem DvAt.not_text (h : DvAt w I a mk mw s) {g o : Nat} {z : ByteArray} (hg : w.cell? ⟨g, o, none⟩ = some (.string z)) : ¬ DSet a mk mw g := by
  obtain ⟨cs, t, f, h1, h2⟩ := Sort.cells_of_cell? hg
  rintro (rfl | rfl | rfl)
  · rw [h.blk.cell] at hg
    have := List.mem_of_getElem? (by rw [← Array.getElem?_toList] at hg; exact hg)
    unfold Dv.cells at this
    simp only [List.mem_cons, List.not_mem_nil, or_false] at this
    rcases this with e | e | e | e | e | e | e | e <;> cases e
  · exact h.k.no_row _ _ _ h1
  · exact h.wt.no_row _ _ _ h1
theorem HoldsF.dset (h : DvAt w I a mk mw s) (t : TurnsIn (DSet a mk mw) w w') {B : Nat} {A : Option Addr} {l : Sl} (hf : HoldsF w B A l) (hB : B ≤ w.heap.size) : HoldsF w' B A l := by
  intro hx
  obtain ⟨b, off, e, hb, hc⟩ := hf hx
  refine ⟨b, off, e, hb, fun j p hj i u hu => ?_⟩
  have h1 := hc 0 (l[0]'hx) (List.getElem?_eq_getElem hx) 1 _ rfl
  exact (World.cell?_of_block (w := w) (a := ⟨b, _, none⟩) (t.block b (by omega) (h.not_text h1))).trans (hc j p hj i u hu)
theorem RDv.dset (h : DvAt w I a mk mw s) (t : TurnsIn (DSet a mk mw) w w') {v : Value} {m : Dv} (hr : RDv w v m) : RDv w' v m := by
  obtain ⟨Ak, ck, Aw, cw, e, h1, h2, r⟩ := hr
  exact ⟨Ak, ck, Aw, cw, e, (h1.dset h t (Nat.le_refl _)).more t.size, (h2.dset h t (Nat.le_refl _)).more t.size, r⟩
theorem Block.dset (h : DvAt w I a mk mw s) (t : TurnsIn (DSet a mk mw) w w') {g : Nat} {ty : TypeId} {cs : Array Value} (X : Block w g ty cs) (ht : ty ≠ 91) : Block w' g ty cs := X.out t (h.not_cells X ht)
/-- A block of another type turns, and the device stays. -/
theorem DvAt.beside {g : Nat} {ty : TypeId} {cs : Array Value} (h : DvAt w I a mk mw s) (X : Block w g ty cs) (ht : ty ≠ 91) (hu : ty ≠ 5) (t : TurnsIn (fun b => b = g) w w') : DvAt w' I a mk mw s := by
  have hn := h.not_cells X ht
  exact h.out t (fun e => hn (Or.inl e.symm)) (fun e => hn (Or.inr (Or.inl e.symm))) (fun e => hn (Or.inr (Or.inr e.symm))) (fun b hb _ cs' f e => by
    subst hb
    unfold Block at X
    rw [X] at e
    injection e with e
    injection e with _ e _
    exact hu e)
end

/-- A whole row stays while another block grows. -/
theorem Dev.grown {w0 w w' : World} {a mk mw : Nat} {s : Dv} (h : Dev w0 w a mk mw s) {g : Nat} {ty : TypeId} {cs : Array Value} (X : Block w g ty cs) (ht : ty ≠ 91) (hu : ty ≠ 5) (hg : w0.heap.size ≤ g) (gr : w.grownBy w' (some g)) : Dev w0 w' a mk mw s := by
  have t : TurnsIn (fun b => b = g) w w' := .ofGrown gr fun b hb => by injection hb with hb; exact hb.symm
  exact ⟨h.d.beside X ht hu t, h.b.trans (t.toBelow h.b.size (fun b hb e => by omega)), h.ga, h.gk, h.gw⟩

/-- The document's fuse is set in its box. -/
theorem fuse_row {W : World} {g : Nat} {Ak : Option Addr} {ck : Nat} {Aw : Option Addr} {cw : Nat} {m : Dv} {cs : Array Value} (h : RDv W (.agg #[.int .i64 m.size, .int .i64 m.count, .slice Ak m.kept.length ck, .slice Aw m.waits.length cw, .bool m.off, .int .i64 m.offs, .int .i64 m.fuse, .int .u64 m.wr]) m)
    (X : Block W g 31 cs) (hc : cs = dCells Ak ck Aw cw m) (n : Int) : RDv (W.setCell ⟨g, 6, none⟩ (.int .i64 n)) (.agg (dCells Ak ck Aw cw { m with fuse := n })) { m with fuse := n } := by
  have t : TurnsIn (fun b => b = g) W (W.setCell ⟨g, 6, none⟩ (.int .i64 n)) := TurnsIn.setCell (S := fun b => b = g) (p := ⟨g, 6, none⟩) (TurnsIn.refl _ W) (Or.inl rfl) _
  obtain ⟨Ak2, ck2, Aw2, cw2, e, h1, h2, r⟩ := h.turn X (by rw [hc]; exact dCells_noText _ _ _ _ _) t
  injection e with e
  unfold dCells at e
  simp at e
  obtain ⟨⟨rfl, rfl⟩, rfl, rfl⟩ := e
  exact ⟨Ak, ck, Aw, cw, rfl, h1, h2, r⟩

end Go.Proofs.YtpnodocjpedcmaaDoor.Sec
namespace Go.Proofs.YtpnodocjpedcmaaDoor.Pt
open Go.ChangeShapes Go.WideShapes Go.ChangeAt Go.RowKit Go.Proofs.YtpnodocjpedcmaaDoor.Kit Go.Proofs.YtpnodocjpedcmaaDoor.Sec

theorem pwrite_one {s : Dv} {F : Int} {T : Nat} {x : Int} {bs : List Int} {r t : Int × Dv} (h : PWrite s F T x bs r) (g : PWrite s F T x bs t) : r = t := by
  unfold PWrite at h g
  split at h
  · rw [if_pos (by assumption)] at g
    rw [h, g]
  · rw [if_neg (by assumption)] at g
    split at h
    · rw [if_pos (by assumption)] at g
      exact writes_one h g
    · rw [if_neg (by assumption)] at g
      rw [h, g]
theorem pread_one {s : Dv} {F : Int} {T : Nat} {x n : Int} {r t : List Int × Int} (h : PRead s F T x n r) (g : PRead s F T x n t) : r = t := by
  unfold PRead at h g
  split at h
  · rw [if_pos (by assumption)] at g
    exact reads_one h g
  · rw [if_neg (by assumption)] at g
    rw [h, g]
theorem manyP_le {n : Nat} (hn : 1 ≤ n) (bs : List Int) : manyP n bs ≤ bs.length := by
  unfold manyP
  rw [Nat.div_le_iff_le_mul_add_pred (by omega)]
  have : bs.length * 1 ≤ n * bs.length := by rw [Nat.mul_comm n]; exact Nat.mul_le_mul_left _ hn
  omega
/-- A step moves the counters little, and neither size nor count. -/
def Near (s t : Dv) : Prop := t.offs ≤ s.offs + 2001 ∧ t.wr ≤ s.wr + 2001 ∧ t.size = s.size ∧ t.count = s.count
theorem Near.refl (s : Dv) : Near s s := ⟨by omega, by omega, rfl, rfl⟩
theorem wrS_near2 (s : Dv) (i : Int) (bs : List Int) (k : Nat) (hk : k ≤ 2001) : Near s (wrS s i bs k) := by
  obtain ⟨h1, h2, h3, h4⟩ := wrS_near s i bs k
  exact ⟨by omega, by omega, h3, h4⟩
theorem pwrite_near {s : Dv} {F : Int} {T : Nat} {x : Int} {bs : List Int} {r : Int × Dv} (hs : 1 ≤ s.size) (hb : bs.length ≤ 2000) (h : PWrite s F T x bs r) : Near s r.2 := by
  have hm := manyP_le hs bs
  unfold PWrite at h
  split at h
  · rw [h]
    exact Near.refl s
  · split at h
    · rcases h with ⟨k, hk, _, _, rfl⟩ | ⟨_, rfl⟩
      · exact wrS_near2 s _ bs _ (by omega)
      · exact wrS_near2 s _ bs _ (by omega)
    · rw [h]
      exact Near.refl s
theorem down_near (s : Dv) : s.down.offs ≤ s.offs + 1 ∧ s.down.wr = s.wr ∧ s.down.size = s.size ∧ s.down.count = s.count := by
  unfold Dv.down
  split
  · exact ⟨by omega, rfl, rfl, rfl⟩
  · exact ⟨Int.le_refl _, rfl, rfl, rfl⟩
theorem back_near (s : Dv) (zs : List Int) : Near s (s.back zs) := by
  obtain ⟨h1, h2, h3, h4⟩ := down_near s
  rw [back_form]
  exact ⟨by show s.down.offs ≤ _; omega, by show s.down.wr ≤ _; omega, h3, h4⟩
theorem fused_near (s : Dv) (n : Int) : Near s (s.fused n) := ⟨by show s.offs ≤ _; omega, by show s.wr ≤ _; omega, rfl, rfl⟩
theorem Lies.near {s t : Dv} {F C : Int} {T : Nat} (h : Lies s F C T) (n : Near s t) : Lies t F C T :=
  ⟨h.f0, h.c1, by rw [n.2.2.2]; exact h.fc, by rw [n.2.2.1]; exact h.t⟩

theorem grown_set (w : World) (g i : Nat) (u : Value) : w.grownBy (w.setCell ⟨g, i, none⟩ u) (some g) := by
  have t : TurnsIn (fun b => b = g) w (w.setCell ⟨g, i, none⟩ u) := TurnsIn.setCell (S := fun b => b = g) (p := ⟨g, i, none⟩) (TurnsIn.refl _ w) (Or.inl rfl) u
  exact ⟨t.os, t.tape, t.output, t.size, fun j hj hne => t.block j hj (fun e => hne (by rw [e]))⟩
/-- Between steps: the program's device s, the document's m in a block of the call's own, the part and the region. -/
structure Plays7 (w0 w : World) (a mk mw p g q : Nat) (F C : Int) (s m : Dv) (cs : Array Value) : Prop where
  d : Dev w0 w a mk mw s
  p : PartAt w p a F C
  x : Block w g 31 cs
  y : Block w q 42 #[.int .i64 F, .int .i64 C]
  r : RDv w (.agg cs) m
  g : w0.heap.size ≤ g
section
variable {w0 w w' : World} {a mk mw p g q : Nat} {F C : Int} {s m s' : Dv} {cs cs' : Array Value}
theorem Plays7.below (h : Plays7 w0 w a mk mw p g q F C s m cs) (hb : Below w.heap.size w w') : Plays7 w0 w' a mk mw p g q F C s m cs :=
  ⟨h.d.below hb, h.p.below hb (Block.lt h.p), h.x.below hb h.x.lt, h.y.below hb h.y.lt, h.r.below hb, h.g⟩
theorem Plays7.turn (h : Plays7 w0 w a mk mw p g q F C s m cs) {I : Nat → Prop} (hd : DvAt w' I a mk mw s') (t : TurnsIn (DSet a mk mw) w w') : Plays7 w0 w' a mk mw p g q F C s' m cs :=
  ⟨h.d.turn hd t, Block.dset h.d.d t h.p (by decide), Block.dset h.d.d t h.x (by decide), Block.dset h.d.d t h.y (by decide), RDv.dset h.d.d t h.r, h.g⟩
theorem block_ne {w : World} {g1 g2 : Nat} {t1 t2 : TypeId} {c1 c2 : Array Value} (h1 : Block w g1 t1 c1) (h2 : Block w g2 t2 c2) (ht : t1 ≠ t2) : g1 ≠ g2 := by
  rintro rfl
  unfold Block at h1 h2
  rw [h1] at h2
  injection h2 with h2
  injection h2 with _ e _
  exact ht e
/-- The document's next device is stored into its block. -/
theorem Plays7.store (h : Plays7 w0 w a mk mw p g q F C s m cs) {m' : Dv} (hm : RDv w' (.agg cs') m') (X : Block w' g 31 cs') (gr : w.grownBy w' (some g)) : Plays7 w0 w' a mk mw p g q F C s m' cs' :=
  ⟨h.d.grown h.x (by decide) (by decide) h.g gr, h.p.grown gr (by intro e; injection e with e; exact block_ne h.x h.p (by decide) e), X, h.y.grown gr (by intro e; injection e with e; exact block_ne h.x h.y (by decide) e), hm, h.g⟩
end
end Go.Proofs.YtpnodocjpedcmaaDoor.Pt

namespace Go.Proofs.YtpnodocjpedcmaaDoor.Pt
open Go.ChangeShapes Go.WideShapes Go.ChangeAt Go.RowKit Go.Proofs.YtpnodocjpedcmaaDoor.Kit Go.Proofs.YtpnodocjpedcmaaDoor.Sec

/-- A device that is on and never falls. -/
structure On (s : Dv) : Prop where
  ok : s.Ok
  off : s.off = false
  fuse : s.fuse = -1
theorem On.new {N M : Nat} (h1 : 128 ≤ N) (h2 : N ≤ 4096) (h3 : 1 ≤ M) (h4 : M ≤ 1048576) : On (Dv.new N M) := ⟨Dv.new_ok h1 h2 h3 h4, rfl, rfl⟩
theorem on_write {s : Dv} (h : On s) {i : Int} {xs : List Int} (h0 : 0 ≤ i) (h1 : i < s.count) (hx : xs.length = s.size) :
    (s.write i xs).1 = 0 ∧ On (s.write i xs).2 ∧ (s.write i xs).2.size = s.size ∧ (s.write i xs).2.count = s.count ∧ ∀ j, (s.write i xs).2.read j = if j = i then (xs, 0) else s.read j := by
  have ht : (s.writes i xs).tick = s.writes i xs := by
    unfold Dv.tick
    rw [if_pos (show (s.writes i xs).fuse = -1 from h.fuse)]
  have e : s.write i xs = (0, { s.writes i xs with wr := s.wr + 1 }) := by
    unfold Dv.write
    rw [if_neg (by rw [h.off]; decide), if_neg (by omega), if_neg (fun e => e hx), ht]
    rw [if_neg (by rw [h.fuse]; decide)]
  have hok := write_ok h.ok i xs
  rw [e] at hok ⊢
  refine ⟨rfl, ⟨hok, h.off, h.fuse⟩, rfl, rfl, fun j => ?_⟩
  unfold Dv.read
  have o1 : ({ s.writes i xs with wr := s.wr + 1 } : Dv).off = false := h.off
  have c1 : ({ s.writes i xs with wr := s.wr + 1 } : Dv).count = s.count := rfl
  have k1 : ({ s.writes i xs with wr := s.wr + 1 } : Dv).kept = s.kept := rfl
  have z1 : ({ s.writes i xs with wr := s.wr + 1 } : Dv).size = s.size := rfl
  have w1 : ({ s.writes i xs with wr := s.wr + 1 } : Dv).waits = putS s.waits i (some xs) := rfl
  rw [o1, c1, k1, z1, w1, h.off]
  by_cases hj : j = i
  · subst hj
    rw [if_pos rfl, if_neg (by decide), if_neg (by omega), getS_putS h.ok.wu]
    simp
  · rw [if_neg hj, getS_putS h.ok.wu, if_neg hj]
theorem on_wrS {s : Dv} (h : On s) {i : Int} {bs : List Int} (h0 : 0 ≤ i) : ∀ k : Nat, i + k ≤ s.count →
    OkW s i bs k ∧ On (wrS s i bs k) ∧ (wrS s i bs k).size = s.size ∧ (wrS s i bs k).count = s.count ∧ ∀ j, (wrS s i bs k).read j = if i ≤ j ∧ j < i + k then (chunkP s.size bs (j - i).toNat, 0) else s.read j
  | 0, _ => ⟨fun j hj => absurd hj (by omega), h, rfl, rfl, fun j => by rw [if_neg (by omega)]; rfl⟩
  | k + 1, hk => by
    obtain ⟨a1, a2, a3, a4, a5⟩ := on_wrS h h0 k (by omega)
    obtain ⟨b1, b2, b3, b4, b5⟩ := on_write a2 (i := i + k) (xs := chunkP s.size bs k) (by omega) (by rw [a4]; omega) (by rw [chunkP_length, a3])
    refine ⟨fun j hj => ?_, b2, b3.trans a3, b4.trans a4, fun j => ?_⟩
    · rcases Nat.lt_or_ge j k with hl | hl
      · exact a1 j hl
      · obtain rfl : j = k := by omega
        exact b1
    · show (((wrS s i bs k).write (i + k) (chunkP s.size bs k)).2).read j = _
      rw [b5, a5]
      by_cases e : j = i + k
      · rw [if_pos e, if_pos (by omega), show (j - i).toNat = k by omega]
      · rw [if_neg e]
        by_cases e2 : i ≤ j ∧ j < i + k
        · rw [if_pos e2, if_pos (by omega)]
        · rw [if_neg e2, if_neg (by omega)]
/-- Sectors that are whole are read as they stand. -/
theorem on_reads {s : Dv} {T : Nat} {r : List Int × Int} (h : ∀ p, p < T → (secP s 0 p).2 = 0) (hr : ReadsP s 0 0 T r) : r = (rowP s 0 0 T, 0) := by
  rcases hr with ⟨k, hk, _, h2, _⟩ | ⟨_, e⟩
  · exact absurd (h _ (by omega)) h2
  · exact e
/-- What a written region reads as. -/
def wantB (N F x : Nat) (bs : List Int) (p : Nat) : Int :=
  if F * N + x ≤ p ∧ p < F * N + x + bs.length then bs.getD (p - (F * N + x)) 0 else if F * N + x ≤ p ∧ p < F * N + x + manyP N bs * N then 0 else 201

section
variable {N M : Nat}
theorem fill_read (h1 : 128 ≤ N) (h2 : N ≤ 4096) (h3 : 1 ≤ M) (h4 : M ≤ 1048576) :
    On (wrS (Dv.new N M) 0 (List.replicate (N * M) 201) M) ∧ (wrS (Dv.new N M) 0 (List.replicate (N * M) 201) M).size = N ∧ (wrS (Dv.new N M) 0 (List.replicate (N * M) 201) M).count = M ∧
      ∀ j : Nat, j < M → (wrS (Dv.new N M) 0 (List.replicate (N * M) 201) M).read j = (List.replicate N 201, 0) := by
  obtain ⟨a1, a2, a3, a4, a5⟩ := on_wrS (On.new h1 h2 h3 h4) (i := 0) (bs := List.replicate (N * M) 201) (by omega) M (by show (0 : Int) + (M : Int) ≤ (M : Int); omega)
  refine ⟨a2, a3, a4, fun j hj => ?_⟩
  rw [a5, if_pos (by omega)]
  have e : ((j : Int) - 0).toNat = j := by omega
  rw [e]
  have hs : (Dv.new N M).size = N := rfl
  rw [hs]
  unfold chunkP padB
  rw [List.drop_replicate, List.take_replicate]
  have hjn : N ≤ N * M - j * N := by
    have : (j + 1) * N ≤ M * N := Nat.mul_le_mul_right N hj
    rw [Nat.add_mul, Nat.one_mul, Nat.mul_comm M N] at this
    omega
  rw [Nat.min_eq_left hjn, List.length_replicate, Nat.sub_self]
  simp
theorem fill_many (h1 : 128 ≤ N) : manyP N (List.replicate (N * M) 201) = M := by
  unfold manyP
  rw [List.length_replicate, Nat.mul_comm N M, Nat.add_sub_assoc (by omega), Nat.add_comm, Nat.add_mul_div_right _ _ (by omega), Nat.div_eq_of_lt (by omega)]
  omega
/-- The first write fills the device. -/
theorem fill_writes (h1 : 128 ≤ N) (h2 : N ≤ 4096) (h3 : 1 ≤ M) (h4 : M ≤ 1048576) {r : Int × Dv} (h : PWrite (Dv.new N M) 0 (N * M) 0 (List.replicate (N * M) 201) r) : r = (0, wrS (Dv.new N M) 0 (List.replicate (N * M) 201) M) := by
  have hs : (Dv.new N M).size = N := rfl
  unfold PWrite at h
  rw [hs, if_neg (by simp), if_pos (by rw [List.length_replicate]; omega)] at h
  have hm := fill_many (M := M) h1
  obtain ⟨a1, -, -, -, -⟩ := on_wrS (On.new h1 h2 h3 h4) (i := 0) (bs := List.replicate (N * M) 201) (by omega) M (by show (0 : Int) + (M : Int) ≤ (M : Int); omega)
  have e : (0 : Int) + (((0 : Int).toNat / N : Nat) : Int) = 0 := by simp
  rw [e] at h
  rcases h with ⟨k, hk, _, h5, _⟩ | ⟨_, e⟩
  · rw [hs, hm] at hk
    exact absurd (a1 k hk) h5
  · rw [e, hs, hm]
end

theorem chunkP_getD (n : Nat) (bs : List Int) (k m : Nat) (hm : m < n) : (chunkP n bs k).getD m 0 = if k * n + m < bs.length then bs.getD (k * n + m) 0 else 0 := by
  unfold chunkP padB
  rw [List.getD, List.getD]
  by_cases h : k * n + m < bs.length
  · rw [if_pos h, List.getElem?_append_left (by rw [List.length_take, List.length_drop]; omega), List.getElem?_take, if_pos hm, List.getElem?_drop]
  · rw [if_neg h, List.getElem?_append_right (by rw [List.length_take, List.length_drop]; omega), List.getElem?_replicate]
    split <;> rfl
theorem many_le {n : Nat} (hn : 0 < n) {bs : List Int} {k : Nat} (h : bs.length ≤ k * n) : manyP n bs ≤ k := by
  rcases Nat.lt_or_ge k (manyP n bs) with h1 | h1
  · have := (manyP_iff hn bs k).1 h1
    omega
  · exact h1
section
variable {N M : Nat} {s : Dv}
/-- A device of which each sector can be read. -/
theorem reads_all (hz : s.size = N) (hN : 0 < N) (h : ∀ j : Nat, j < M → (s.read j).2 = 0) {q : List Int × Int} (hq : PRead s 0 (N * M) 0 ((N * M : Nat) : Int) q) : q = (rowP s 0 0 (N * M), 0) := by
  unfold PRead at hq
  rw [if_pos (by omega)] at hq
  refine on_reads (fun p hp => ?_) hq
  unfold secP
  rw [hz, Int.zero_add]
  exact h _ ((Nat.div_lt_iff_lt_mul hN).2 (by rw [Nat.mul_comm]; simpa using hp))
theorem row_getD (p T : Nat) (hp : p < T) : (rowP s 0 0 T).getD p 0 = (s.read ((p / s.size : Nat) : Int)).1.getD (p % s.size) 0 := by
  unfold rowP
  rw [List.getD, List.getElem?_map, List.getElem?_range hp]
  simp [byteP, secP]
theorem back_reads {F C x : Int} {T : Nat} {bs : List Int} (hN : 128 ≤ N) (hon : On s) (hz : s.size = N) (hc : s.count = M) (hr : ∀ j : Nat, j < M → s.read j = (List.replicate N 201, 0)) (hl : Lies s F C T)
    {r : Int × Dv} (h : PWrite s F T x bs r) {q : List Int × Int} (hq : PRead r.2 0 (N * M) 0 ((N * M : Nat) : Int) q) :
    (r.1 ≠ 0 ∧ q = (List.replicate (N * M) 201, 0)) ∨ (r.1 = 0 ∧ 0 ≤ x ∧ x + bs.length ≤ T ∧ q.2 = 0 ∧ q.1.length = N * M ∧ ∀ p, p < N * M → q.1.getD p 0 = wantB N F.toNat x.toNat bs p) := by
  have hfill : ∀ {r2 : Dv}, r2 = s → PRead r2 0 (N * M) 0 ((N * M : Nat) : Int) q → q = (List.replicate (N * M) 201, 0) := by
    rintro r2 rfl hq
    rw [reads_all hz (by omega) (fun j hj => by rw [hr j hj]) hq]
    congr 1
    apply List.ext_getElem
    · rw [rowP_length, List.length_replicate]
    · intro p h1 h2
      rw [rowP_length] at h1
      have e := row_getD (s := r2) p (N * M) h1
      rw [List.getD, List.getElem?_eq_getElem (by rw [rowP_length]; exact h1)] at e
      rw [List.getElem_replicate]
      refine (show _ = _ from e).trans ?_
      rw [hz, hr _ ((Nat.div_lt_iff_lt_mul (by omega)).2 (by rw [Nat.mul_comm]; exact h1)), List.getD, List.getElem?_replicate, if_pos (Nat.mod_lt _ (by omega))]
      rfl
  unfold PWrite at h
  rw [hz] at h
  split at h
  · rw [h] at hq ⊢
    exact Or.inl ⟨by show (1 : Int) ≠ 0; decide, hfill rfl hq⟩
  rename_i hm
  split at h
  · rename_i hin
    right
    obtain ⟨X, rfl⟩ : ∃ X : Nat, x = (X : Int) := ⟨x.toNat, by omega⟩
    obtain ⟨f, rfl⟩ : ∃ f : Nat, F = (f : Int) := ⟨F.toNat, by have := hl.f0; omega⟩
    rw [Int.toNat_natCast] at h
    rw [Int.toNat_natCast, Int.toNat_natCast]
    have hXm : X % N = 0 := by
      have h1 : ((X % N : Nat) : Int) = 0 := by rw [Int.ofNat_tmod]; exact Decidable.not_not.1 hm
      omega
    have hXN : X / N * N = X := by have := Nat.div_add_mod X N; rw [hXm, Nat.mul_comm] at this; omega
    obtain ⟨Q, hQ⟩ : ∃ Q, X / N = Q := ⟨_, rfl⟩
    rw [hQ] at hXN h
    obtain ⟨c, rfl⟩ : ∃ c : Nat, C = (c : Int) := ⟨C.toNat, by have := hl.c1; omega⟩
    have ht : c * N = T := by have := hl.t; rw [hz] at this; exact_mod_cast this
    have hfc : f + c ≤ M := by have := hl.fc; rw [hc] at this; exact_mod_cast this
    have hcx : Q ≤ c := by
      rcases Nat.lt_or_ge c Q with h1 | h1
      · have : (c + 1) * N ≤ Q * N := Nat.mul_le_mul_right N h1
        rw [Nat.add_mul, Nat.one_mul] at this
        omega
      · exact h1
    have hmany : manyP N bs ≤ c - Q := many_le (by omega) (by rw [Nat.sub_mul, hXN, ht]; omega)
    obtain ⟨a1, a2, a3, a4, a5⟩ := on_wrS hon (i := (f : Int) + (Q : Int)) (bs := bs) (by omega) (manyP N bs) (by rw [hc]; omega)
    have he : r = (0, wrS s ((f : Int) + (Q : Int)) bs (manyP N bs)) := by
      rcases h with ⟨k, hk, _, h5, _⟩ | ⟨_, e⟩
      · rw [hz] at hk
        exact absurd (a1 k hk) h5
      · rw [e, hz]
    rw [he] at hq ⊢
    have hq2 := reads_all (s := wrS s ((f : Int) + (Q : Int)) bs (manyP N bs)) (a3.trans hz) (by omega) (fun j hj => by
      rw [a5]
      split
      · rfl
      · rw [hr j hj]) hq
    rw [hq2]
    refine ⟨rfl, by omega, by omega, rfl, rowP_length _ _ _ _, fun p hp => ?_⟩
    show (rowP _ 0 0 (N * M)).getD p 0 = _
    rw [row_getD p (N * M) hp, a3.trans hz, a5, hz]
    have hpj : p / N < M := (Nat.div_lt_iff_lt_mul (by omega)).2 (by rw [Nat.mul_comm]; exact hp)
    have hdm := Nat.div_add_mod p N
    have hpm := Nat.mod_lt p (show 0 < N by omega)
    obtain ⟨I, hI⟩ : ∃ I, f + Q = I := ⟨_, rfl⟩
    have hIN : f * N + X = I * N := by rw [← hI, Nat.add_mul, hXN]
    have hiI : (f : Int) + (Q : Int) = (I : Int) := by omega
    rw [hiI]
    unfold wantB
    rw [hIN]
    obtain ⟨j, hj⟩ : ∃ j, p / N = j := ⟨_, rfl⟩
    rw [hj] at hpj hdm ⊢
    rw [Nat.mul_comm] at hdm
    by_cases hin2 : I ≤ j ∧ j < I + manyP N bs
    · rw [if_pos (by omega)]
      show (chunkP N bs ((j : Int) - (I : Int)).toNat).getD (p % N) 0 = _
      obtain ⟨k, rfl⟩ : ∃ k, j = I + k := ⟨j - I, by omega⟩
      rw [show (((I + k : Nat) : Int) - (I : Int)).toNat = k by omega, chunkP_getD N bs k _ hpm]
      have e1 : (I + k) * N = I * N + k * N := Nat.add_mul _ _ _
      rw [e1] at hdm
      have e2 : k * N + p % N = p - I * N := by omega
      have e3 : k * N + p % N < manyP N bs * N := by
        have : (k + 1) * N ≤ manyP N bs * N := Nat.mul_le_mul_right N (by omega)
        rw [Nat.add_mul, Nat.one_mul] at this
        omega
      rw [e2]
      by_cases hl2 : p - I * N < bs.length
      · rw [if_pos hl2, if_pos (by omega)]
      · rw [if_neg hl2, if_neg (by omega), if_pos (by omega)]
    · rw [if_neg (by omega), hr j hpj]
      show (List.replicate N (201 : Int)).getD (p % N) 0 = _
      rw [List.getD, List.getElem?_replicate, if_pos hpm]
      have hb : bs.length ≤ manyP N bs * N := by
        rcases Nat.lt_or_ge (manyP N bs * N) bs.length with h1 | h1
        · exact absurd ((manyP_iff (by omega) bs _).2 h1) (Nat.lt_irrefl _)
        · exact h1
      rcases Nat.lt_or_ge j I with h1 | h1
      · have : (j + 1) * N ≤ I * N := Nat.mul_le_mul_right N h1
        rw [Nat.add_mul, Nat.one_mul] at this
        rw [if_neg (by omega), if_neg (by omega)]
        rfl
      · have h2 : I + manyP N bs ≤ j := by omega
        have : (I + manyP N bs) * N ≤ j * N := Nat.mul_le_mul_right N h2
        rw [Nat.add_mul] at this
        rw [if_neg (by omega), if_neg (by omega)]
        rfl
  · rw [h] at hq ⊢
    exact Or.inl ⟨by show (5 : Int) ≠ 0; decide, hfill rfl hq⟩
end
end Go.Proofs.YtpnodocjpedcmaaDoor.Pt

namespace Go.Proofs.YtpnodocjpedcmaaDoor.Im
open Go.ChangeShapes Go.WideShapes Go.ChangeAt Go.RowKit Go.Proofs.YtpnodocjpedcmaaDoor.Kit Go.Proofs.YtpnodocjpedcmaaDoor.Sec Go.Proofs.YtpnodocjpedcmaaDoor.Pt

theorem okP_join {s : Dv} {F : Int} {a m : Nat} (h : OkP s F 0 a) (g : OkP s F a m) : OkP s F 0 (a + m) := by
  intro j hj
  rcases Nat.lt_or_ge j a with hl | hl
  · exact h j hl
  · have := g (j - a) (by omega)
    rwa [show a + (j - a) = 0 + j by omega] at this
theorem okP_none (s : Dv) (F : Int) (a : Nat) : OkP s F a 0 := fun j hj => absurd hj (by omega)
/-- A piece that can't be read tells what all of it tells. -/
theorem reads_bad {s : Dv} {F : Int} {a m n : Nat} {r : List Int × Int} (h : OkP s F 0 a) (hr : ReadsP s F a m r) (h0 : r.2 ≠ 0) (hn : a + m ≤ n) : ReadsP s F 0 n ([], r.2) := by
  rcases hr with ⟨k, hk, h1, h2, rfl⟩ | ⟨_, rfl⟩
  · refine Or.inl ⟨a + k, by omega, okP_join h h1, ?_, ?_⟩
    · rw [show 0 + (a + k) = a + k by omega]; exact h2
    · rw [show 0 + (a + k) = a + k by omega]
  · exact absurd rfl h0
/-- A piece that is read. -/
theorem reads_good {s : Dv} {F : Int} {a m : Nat} {r : List Int × Int} (h : OkP s F 0 a) (hr : ReadsP s F a m r) (h0 : r.2 = 0) : r = (rowP s F a m, 0) ∧ OkP s F 0 (a + m) ∧ rowP s F 0 (a + m) = rowP s F 0 a ++ r.1 := by
  rcases hr with ⟨k, _, _, h2, rfl⟩ | ⟨h1, rfl⟩
  · exact absurd h0 h2
  · refine ⟨rfl, okP_join h h1, ?_⟩
    have := rowP_add s F 0 a m
    rwa [Nat.zero_add] at this
theorem pread_in {s : Dv} {F : Int} {T : Nat} {a m : Nat} {r : List Int × Int} (h : PRead s F T a m r) (hT : a + m ≤ T) : ReadsP s F a m r := by
  unfold PRead at h
  rw [if_pos (by omega)] at h
  exact h
/-- What all of it tells, as an answer of bytes and an error. -/
def WholeP (s : Dv) (F : Int) (n : Nat) : List Int × Int → Prop := ReadsP s F 0 n
theorem whole_done {s : Dv} {F : Int} {n : Nat} (h : OkP s F 0 n) : ReadsP s F 0 n (rowP s F 0 n, 0) := Or.inr ⟨h, rfl⟩
end Go.Proofs.YtpnodocjpedcmaaDoor.Im

namespace Go.Proofs.YtpnodocjpedcmaaDoor.Im
open Go.ChangeShapes Go.WideShapes Go.ChangeAt Go.RowKit Go.Proofs.YtpnodocjpedcmaaDoor.Kit Go.Proofs.YtpnodocjpedcmaaDoor.Sec Go.Proofs.YtpnodocjpedcmaaDoor.Pt

/-- A layout on a device of so many sectors: S bytes a sector, B a block, sl blocks a slot. -/
structure LayOk (S B sl : Int) (s : Dv) : Prop where
  m : Prt.mayB S B sl = true
  z : S = s.size
  c : allV S B sl ≤ s.count
/-- Where a slot begins. -/
def slotF (S B sl i : Int) : Int := if i = 0 then 2 + B / S else 2 + B / S + sl * (B / S)
theorem LayOk.facts {S B sl : Int} {s : Dv} (h : LayOk S B sl s) : (128 ≤ S ∧ S ≤ 4096) ∧ (128 ≤ B ∧ B ≤ 4096) ∧ (1 ≤ sl ∧ sl ≤ 4096) ∧ B / S * S = B ∧ 1 ≤ B / S ∧ 0 ≤ B * sl ∧ B * sl ≤ 16777216 ∧ sl * (B / S) * S = B * sl ∧ 1 ≤ sl * (B / S) := by
  obtain ⟨hS, hB, hs⟩ := Prt.may_facts h.m
  obtain ⟨q1, q2, q3, q4, q5⟩ := may_q h.m
  have hd : B / S * S = B := by
    have := h.m
    unfold Prt.mayB at this
    exact Int.ediv_mul_cancel (Int.dvd_of_emod_eq_zero (of_decide_eq_true this).2.2.1)
  have h1 : B * sl ≤ B * 4096 := Int.mul_le_mul_of_nonneg_left hs.2 (by omega)
  have h2 : 0 ≤ B * sl := Int.mul_nonneg (by omega) (by omega)
  refine ⟨hS, hB, hs, hd, q1, h2, by omega, ?_, q3⟩
  rw [Int.mul_assoc, hd, Int.mul_comm]
theorem LayOk.lies {S B sl : Int} {s : Dv} (h : LayOk S B sl s) (i : Int) : Lies s (slotF S B sl i) (sl * (B / S)) (B * sl).toNat := by
  obtain ⟨hS, hB, hs, hd, hq, h0, h1, h2, h3⟩ := h.facts
  have hc := h.c
  unfold allV at hc
  unfold slotF
  have hT : sl * (B / S) * (s.size : Int) = ((B * sl).toNat : Int) := by rw [← h.z, h2]; omega
  split
  · exact ⟨by omega, h3, by omega, hT⟩
  · exact ⟨by omega, h3, by omega, hT⟩
theorem LayOk.aside {S B sl : Int} {s : Dv} (h : LayOk S B sl s) : Lies s 2 (B / S) B.toNat := by
  obtain ⟨hS, hB, hs, hd, hq, h0, h1, h2, h3⟩ := h.facts
  have hc := h.c
  unfold allV at hc
  exact ⟨by omega, hq, by omega, by rw [← h.z, hd]; omega⟩
section
variable {w w' : World} {x a p0 p1 p2 : Nat} {S B sl : Int}
def slotP (p0 p1 : Nat) (i : Int) : Nat := if i = 0 then p0 else p1
theorem ImAt.slot (h : ImAt w x a S B sl p0 p1 p2) (i : Int) : PartAt w (slotP p0 p1 i) a (slotF S B sl i) (sl * (B / S)) := by
  unfold slotP slotF
  split
  · exact h.p0
  · exact h.p1
theorem ImAt.below (h : ImAt w x a S B sl p0 p1 p2) (hb : Below w.heap.size w w') : ImAt w' x a S B sl p0 p1 p2 :=
  ⟨h.x.below hb h.x.lt, Block.below h.p0 hb (Block.lt h.p0), Block.below h.p1 hb (Block.lt h.p1), Block.below h.p2 hb (Block.lt h.p2)⟩
theorem ImAt.turn {I : Nat → Prop} {mk mw : Nat} {s : Dv} (h : ImAt w x a S B sl p0 p1 p2) (hd : DvAt w I a mk mw s) (t : TurnsIn (DSet a mk mw) w w') : ImAt w' x a S B sl p0 p1 p2 :=
  ⟨Block.out h.x t (hd.not_cells h.x (by decide)), Block.out h.p0 t (hd.not_cells h.p0 (by decide)), Block.out h.p1 t (hd.not_cells h.p1 (by decide)), Block.out h.p2 t (hd.not_cells h.p2 (by decide))⟩
end

set_option maxHeartbeats 1600000 in
theorem slot_any (x a p0 p1 p2 : Nat) (S B sl i : Int) (w : World) (h : ImAt w x a S B sl p0 p1 p2) (hi : 0 ≤ i ∧ i ≤ 255) :
    Calls Tryd.prog 66 #[.pointer (some ⟨x, 0, none⟩), .int .u8 i] w fun e w' => e = .returned (.pointer (some ⟨slotP p0 p1 i, 0, none⟩)) ∧ w = w' := by
  have c3 : w.cell? ⟨x, 3, none⟩ = some (.pointer (some ⟨p0, 0, none⟩)) := h.x.cell 3
  have c4 : w.cell? ⟨x, 4, none⟩ = some (.pointer (some ⟨p1, 0, none⟩)) := h.x.cell 4
  clear h
  unfold slotP
  by_cases h0 : i = 0
  · rw [if_pos h0]
    have hm : min i 1 = 0 := by omega
    clear h0
    go_enter Tryd.func66, Tryd.ntmps66
    go_wp2_with fail
    go_ret
    exact ⟨rfl, rfl⟩
  · rw [if_neg h0]
    have hm : min i 1 = 1 := by omega
    clear h0
    go_enter Tryd.func66, Tryd.ntmps66
    go_wp2_with fail
    go_ret
    exact ⟨rfl, rfl⟩

set_option maxHeartbeats 1600000 in
theorem isBlock_any (x a p0 p1 p2 : Nat) (S B sl : Int) (A : Option Addr) (n c : Nat) (w : World) (h : ImAt w x a S B sl p0 p1 p2) :
    Calls Tryd.prog 69 #[.pointer (some ⟨x, 0, none⟩), .slice A n c] w fun e w' => e = .returned (.bool (decide (1 ≤ n ∧ (n : Int) ≤ B))) ∧ w = w' := by
  have c1 : w.cell? ⟨x, 1, none⟩ = some (.int .i64 B) := h.x.cell 1
  clear h
  have key : ∀ b : Bool, (1 ≤ n ∧ (n : Int) ≤ B ↔ b = true) → decide (1 ≤ n ∧ (n : Int) ≤ B) = b := by
    intro b hb
    cases b with
    | true => exact decide_eq_true (hb.2 rfl)
    | false => exact decide_eq_false (fun h => by have := hb.1 h; cases this)
  by_cases h1 : 1 ≤ n
  · by_cases h2 : (n : Int) ≤ B
    · have d1 : decide ((1 : Int) ≤ (n : Int)) = true := decide_eq_true (by omega)
      have d2 : decide ((n : Int) ≤ B) = true := decide_eq_true h2
      rw [key true (by simp [h1, h2])]
      clear key
      go_enter Tryd.func69, Tryd.ntmps69
      go_wp2_with fail
      go_ret
      exact ⟨rfl, rfl⟩
    · have d1 : decide ((1 : Int) ≤ (n : Int)) = true := decide_eq_true (by omega)
      have d2 : decide ((n : Int) ≤ B) = false := decide_eq_false h2
      rw [key false (by simp [h2])]
      clear key
      go_enter Tryd.func69, Tryd.ntmps69
      go_wp2_with fail
      go_ret
      exact ⟨rfl, rfl⟩
  · have d1 : decide ((1 : Int) ≤ (n : Int)) = false := decide_eq_false (by omega)
    rw [key false (by simp [h1])]
    clear key
    go_enter Tryd.func69, Tryd.ntmps69
    go_wp2_with fail
    go_ret
    exact ⟨rfl, rfl⟩

/-- What a part's read tells, bytes and an error in new memory. -/
def Tell (s : Dv) (F : Int) (T : Nat) (x n : Int) (w : World) (e : Ending) (w' : World) : Prop := ∃ r, PRead s F T x n r ∧ GivesB r.1 r.2 w e w'
/-- What a part's write leaves. -/
def Wrt (I : Nat → Prop) (a mk mw : Nat) (s : Dv) (F : Int) (T : Nat) (x : Int) (bs : List Int) (w : World) (e : Ending) (w' : World) : Prop :=
  ∃ r, PWrite s F T x bs r ∧ e = .returned (.int .i64 r.1) ∧ DvAt w' I a mk mw r.2 ∧ TurnsIn (DSet a mk mw) w w'

set_option maxRecDepth 100000 in
set_option maxHeartbeats 3200000 in
/-- A block is put. -/
theorem put_any (I : Nat → Prop) (x a mk mw p0 p1 p2 : Nat) (S B sl i k : Int) (A : Option Addr) (bs : List Int) (c : Nat) (s : Dv) (w : World) (h : ImAt w x a S B sl p0 p1 p2) (hd : DvAt w I a mk mw s) (hL : LayOk S B sl s) (hI : ∀ g, w.heap.size ≤ g → I g) (hi : 0 ≤ i ∧ i ≤ 255)
    (hk : -9223372036854775808 ≤ k ∧ k ≤ 9223372036854775807) (hbl : bs.length ≤ 1000000) (hbc : bs.length ≤ c) (hcm : c ≤ maxLen) (hbo : Octets bs) (hr : Holds w w.heap.size .u8 A bs) (hof : s.offs ≤ 100000000) (hwr : s.wr ≤ 100000000) :
    Calls Tryd.prog 34 #[.pointer (some ⟨x, 0, none⟩), .int .u8 i, .int .i64 k, .slice A bs.length c] w fun e w' =>
      (¬ (0 ≤ k ∧ k < sl) ∧ e = .returned (.int .i64 5) ∧ w' = w) ∨ ((0 ≤ k ∧ k < sl) ∧ ¬ (1 ≤ bs.length ∧ (bs.length : Int) ≤ B) ∧ e = .returned (.int .i64 3) ∧ w' = w) ∨
        ((0 ≤ k ∧ k < sl) ∧ (1 ≤ bs.length ∧ (bs.length : Int) ≤ B) ∧ Wrt I a mk mw s (slotF S B sl i) (B * sl).toNat (k * B) bs w e w') := by
  obtain ⟨hS, hB, hs, hdd, hq, h0, h1, h2, h3⟩ := hL.facts
  have c1 : w.cell? ⟨x, 1, none⟩ = some (.int .i64 B) := h.x.cell 1
  have c2 : w.cell? ⟨x, 2, none⟩ = some (.int .i64 sl) := h.x.cell 2
  have GI := Lib.hid (fun W (h : ImAt W x a S B sl p0 p1 p2) => isBlock_any x a p0 p1 p2 S B sl A bs.length c W h)
  have HIM := Lib.hid h
  have HD := Lib.hid hd
  have HSL : Hid (ImAt w.drew x a S B sl p0 p1 p2 → Calls Tryd.prog 66 #[.pointer (some ⟨x, 0, none⟩), .int .u8 i] w.drew fun e w' => e = .returned (.pointer (some ⟨slotP p0 p1 i, 0, none⟩)) ∧ w' = w.drew) := Lib.hid (fun h => (slot_any x a p0 p1 p2 S B sl i w.drew h hi).mono fun e w' h => ⟨h.1, h.2.symm⟩)
  have hGW : ∀ W, TurnsIn (fun _ => False) w W → ImAt W x a S B sl p0 p1 p2 → DvAt W I a mk mw s → 0 ≤ k → k < sl → Calls Tryd.prog 54 #[.pointer (some ⟨slotP p0 p1 i, 0, none⟩), .int .i64 (k * B), .slice A bs.length c] W (Wrt I a mk mw s (slotF S B sl i) (B * sl).toNat (k * B) bs W) := by
    intro W t him hdv hk0 hk1
    have hkb : 0 ≤ k * B ∧ k * B ≤ sl * B := ⟨Int.mul_nonneg hk0 (by omega), Int.mul_le_mul_of_nonneg_right (by omega) (by omega)⟩
    have hcomm : sl * B = B * sl := Int.mul_comm _ _
    exact pwrite_any I (slotP p0 p1 i) a mk mw (slotF S B sl i) (sl * (B / S)) (B * sl).toNat s (k * B) A bs c W (him.slot i) hdv (fun g hg => hI g (by have := t.size; omega)) (hL.lies i) (by omega) hbl hbc hcm hbo ((hr.out t (Nat.le_refl _) (fun _ _ h => h)).more t.size) hof hwr
  have GW := Lib.hid hGW
  have hkw : 0 ≤ k → k < sl → IntKind.i64.wrap (k * B) = k * B := by
    intro hk0 hk1
    have hkb : 0 ≤ k * B ∧ k * B ≤ sl * B := ⟨Int.mul_nonneg hk0 (by omega), Int.mul_le_mul_of_nonneg_right (by omega) (by omega)⟩
    have hcomm : sl * B = B * sl := Int.mul_comm _ _
    exact IntWalk.i64_in _ (by omega)
  clear hGW hI hr
  by_cases hin : 0 ≤ k ∧ k < sl
  case neg =>
    have hd9 : decide (k < 0) = true ∨ (decide (k < 0) = false ∧ decide (sl ≤ k) = true) := by
      simp only [decide_eq_true_eq, decide_eq_false_iff_not]
      omega
    have HN := Lib.hid hin
    clear hin h hd hkw
    rcases hd9 with e1 | ⟨e1, e2⟩
    all_goals
      go_enter Tryd.func34, Tryd.ntmps34
      go_wp2_with fail
      go_ret
      exact Or.inl ⟨HN.out, rfl, rfl⟩
  case pos =>
    have e1 : decide (k < 0) = false := decide_eq_false (by omega)
    have e2 : decide (sl ≤ k) = false := decide_eq_false (by omega)
    have hkw := hkw hin.1 hin.2
    have HN := Lib.hid hin
    clear hin h hd
    by_cases hib : 1 ≤ bs.length ∧ (bs.length : Int) ≤ B
    case neg =>
      have HB := Lib.hid hib
      have GI1 := Lib.hid (GI.out w HIM.out)
      rw [decide_eq_false hib] at GI1
      clear hib
      go_enter Tryd.func34, Tryd.ntmps34
      go_wp2_with (go_at_call 69; (with_reducible refine GI1.out.mono ?_); rintro e w' ⟨rfl, rfl⟩)
      go_ret
      exact Or.inr (Or.inl ⟨HN.out, HB.out, rfl, rfl⟩)
    case pos =>
      have HB := Lib.hid hib
      have GI1 := Lib.hid (GI.out w HIM.out)
      rw [decide_eq_true hib] at GI1
      clear hib
      go_enter Tryd.func34, Tryd.ntmps34
      go_upto_region 7 with (go_at_call 69; (with_reducible refine GI1.out.mono ?_); rintro e w' ⟨rfl, rfl⟩)
      refine wp_region_still_tail 11 (by kernel_rfl) (by kernel_rfl) ?_
      simp only [List.take_succ_cons, List.take_zero, List.drop_succ_cons, List.drop_zero]
      still_step
      still_step
      have HI1 : ImAt w.drew x a S B sl p0 p1 p2 := HIM.out.below (below_draws (Below.refl _ _) 1)
      have HD1 : DvAt w.drew I a mk mw s := HD.out.below (below_draws (Below.refl _ _) 1)
      still_call (HSL.out HI1)
      repeat still_step
      refine wpStill_nil ?_
      change wpList _ _ _ _ _ w.drew
      have GW1 := Lib.hid (GW.out w.drew (TurnsIn.drewN (TurnsIn.refl _ w) 1) HI1 HD1 HN.out.1 HN.out.2)
      go_wp2_with (go_at_call 54; (with_reducible refine GW1.out.mono ?_); rintro e w5 ⟨r5, hp5, rfl, D5, T5⟩)
      go_ret
      exact Or.inr (Or.inr ⟨HN.out, HB.out, r5, hp5, rfl, D5, (TurnsIn.drewN (TurnsIn.refl _ w) 1).trans T5⟩)

set_option maxRecDepth 100000 in
set_option maxHeartbeats 3200000 in
/-- A block is kept aside. -/
theorem keep_any (I : Nat → Prop) (x a mk mw p0 p1 p2 : Nat) (S B sl : Int) (A : Option Addr) (bs : List Int) (c : Nat) (s : Dv) (w : World) (h : ImAt w x a S B sl p0 p1 p2) (hd : DvAt w I a mk mw s) (hL : LayOk S B sl s) (hI : ∀ g, w.heap.size ≤ g → I g)
    (hbl : bs.length ≤ 1000000) (hbc : bs.length ≤ c) (hcm : c ≤ maxLen) (hbo : Octets bs) (hr : Holds w w.heap.size .u8 A bs) (hof : s.offs ≤ 100000000) (hwr : s.wr ≤ 100000000) :
    Calls Tryd.prog 35 #[.pointer (some ⟨x, 0, none⟩), .slice A bs.length c] w fun e w' =>
      (¬ (1 ≤ bs.length ∧ (bs.length : Int) ≤ B) ∧ e = .returned (.int .i64 3) ∧ w' = w) ∨ ((1 ≤ bs.length ∧ (bs.length : Int) ≤ B) ∧ Wrt I a mk mw s 2 B.toNat 0 bs w e w') := by
  have c5 : w.cell? ⟨x, 5, none⟩ = some (.pointer (some ⟨p2, 0, none⟩)) := h.x.cell 5
  have GI1 := Lib.hid (isBlock_any x a p0 p1 p2 S B sl A bs.length c w h)
  have GW := Lib.hid (pwrite_any I p2 a mk mw 2 (B / S) B.toNat s 0 A bs c w h.p2 hd hI hL.aside (by omega) hbl hbc hcm hbo hr hof hwr)
  by_cases hib : 1 ≤ bs.length ∧ (bs.length : Int) ≤ B
  case neg =>
    have HB := Lib.hid hib
    rw [decide_eq_false hib] at GI1
    clear hib h hd hr
    go_enter Tryd.func35, Tryd.ntmps35
    go_wp2_with (go_at_call 69; (with_reducible refine GI1.out.mono ?_); rintro e w' ⟨rfl, rfl⟩)
    go_ret
    exact Or.inl ⟨HB.out, rfl, rfl⟩
  case pos =>
    have HB := Lib.hid hib
    rw [decide_eq_true hib] at GI1
    clear hib h hd hr
    go_enter Tryd.func35, Tryd.ntmps35
    go_wp2_with (first
      | (go_at_call 69; (with_reducible refine GI1.out.mono ?_); rintro e w' ⟨rfl, rfl⟩)
      | (go_at_call 54; (with_reducible refine GW.out.mono ?_); rintro e w5 ⟨r5, hp5, rfl, D5, T5⟩))
    go_ret
    exact Or.inr ⟨HB.out, r5, hp5, rfl, D5, T5⟩

set_option maxRecDepth 100000 in
set_option maxHeartbeats 3200000 in
/-- What stands aside. -/
theorem kept_any (I : Nat → Prop) (x a mk mw p0 p1 p2 : Nat) (S B sl n : Int) (s : Dv) (w : World) (h : ImAt w x a S B sl p0 p1 p2) (hd : DvAt w I a mk mw s) (hL : LayOk S B sl s) :
    Calls Tryd.prog 38 #[.pointer (some ⟨x, 0, none⟩), .int .i64 n] w (Tell s 2 B.toNat 0 n w) := by
  obtain ⟨hS, hB, hs, hdd, hq, h0, h1, h2, h3⟩ := hL.facts
  have c1 : w.cell? ⟨x, 1, none⟩ = some (.int .i64 B) := h.x.cell 1
  have c5 : w.cell? ⟨x, 5, none⟩ = some (.pointer (some ⟨p2, 0, none⟩)) := h.x.cell 5
  have GR := Lib.hid (pread_any I p2 a mk mw 2 (B / S) B.toNat s 0 n w h.p2 hd hL.aside (by omega))
  by_cases hin : 0 ≤ n ∧ n ≤ B
  case neg =>
    have hd9 : decide (n < 0) = true ∨ (decide (n < 0) = false ∧ decide (B < n) = true) := by
      simp only [decide_eq_true_eq, decide_eq_false_iff_not]
      omega
    have HP : Hid (PRead s 2 B.toNat 0 n ([], 5)) := Lib.hid (by
      unfold PRead
      rw [if_neg (by omega)])
    clear hin h hd GR
    rcases hd9 with e1 | ⟨e1, e2⟩
    all_goals
      go_enter Tryd.func38, Tryd.ntmps38
      go_wp2_with fail
      go_ret2
      exact ⟨_, HP.out, _, rfl, Own.nil _ _ _ _, Below.refl _ _⟩
  case pos =>
    have e1 : decide (n < 0) = false := decide_eq_false (by omega)
    have e2 : decide (B < n) = false := decide_eq_false (by omega)
    clear hin h hd
    go_enter Tryd.func38, Tryd.ntmps38
    go_wp2_with (go_at_call 49; (with_reducible refine GR.out.mono ?_); rintro e w5 ⟨r5, hp5, v5, rfl, o5, hb5⟩)
    go_ret2
    exact ⟨r5, hp5, v5, rfl, o5, hb5⟩

/-- A view of n bytes of a part. -/
def ViewAt (w : World) (v p : Nat) (n : Int) : Prop := Block w v 135 #[.pointer (some ⟨p, 0, none⟩), .int .i64 n]
set_option maxRecDepth 100000 in
set_option maxHeartbeats 3200000 in
theorem view_any (x a p0 p1 p2 : Nat) (S B sl i n : Int) (s : Dv) (w : World) (h : ImAt w x a S B sl p0 p1 p2) (hL : LayOk S B sl s) (hi : 0 ≤ i ∧ i ≤ 255) :
    Calls Tryd.prog 36 #[.pointer (some ⟨x, 0, none⟩), .int .u8 i, .int .i64 n] w fun e w' => ∃ v, e = .returned (.pointer (some ⟨v, 0, none⟩)) ∧ w.heap.size ≤ v ∧ ViewAt w' v (slotP p0 p1 i) (min (max n 0) (B * sl)) ∧ Below w.heap.size w w' := by
  obtain ⟨hS, hB, hs, hdd, hq, h0, h1, h2, h3⟩ := hL.facts
  have GS := Lib.hid (slot_any x a p0 p1 p2 S B sl i w h hi)
  have GC := Lib.hid (cap_any x a S B sl p0 p1 p2 w h ⟨h0, h1⟩)
  obtain ⟨C, hC⟩ : ∃ C, B * sl = C := ⟨_, rfl⟩
  rw [hC] at GC ⊢
  clear h hL h0 h1 h2 hC
  go_enter Tryd.func36, Tryd.ntmps36
  go_wp2_with (first
    | (go_at_call 66; (with_reducible refine GS.out.mono ?_); rintro e w' ⟨rfl, rfl⟩)
    | (go_at_call 29; (with_reducible refine GC.out.mono ?_); rintro e w' ⟨rfl, n4, rfl⟩))
  go_ret
  have X := Block.new (w.drewN n4) 135 #[.pointer (some ⟨slotP p0 p1 i, 0, none⟩), .int .i64 (min (max n 0) C)]
  exact ⟨_, rfl, Nat.le_refl _, X, (below_draws (Below.refl _ _) n4).alloc (Nat.le_refl _) _⟩

set_option maxRecDepth 100000 in
set_option maxHeartbeats 3200000 in
theorem range_any (I : Nat → Prop) (v p a mk mw : Nat) (F C : Int) (T : Nat) (m : Int) (from_ n : Int) (s : Dv) (w : World) (h : ViewAt w v p m) (hp : PartAt w p a F C) (hd : DvAt w I a mk mw s) (hl : Lies s F C T) (hm : 0 ≤ m ∧ m ≤ T) (hf : -9223372036854775808 ≤ from_ ∧ from_ ≤ 9223372036854775807) :
    Calls Tryd.prog 37 #[.pointer (some ⟨v, 0, none⟩), .int .i64 from_, .int .i64 n] w fun e w' => (¬ (0 ≤ from_ ∧ from_ ≤ m ∧ 0 ≤ n ∧ n ≤ m - from_) ∧ GivesB [] 5 w e w') ∨ ((0 ≤ from_ ∧ from_ ≤ m ∧ 0 ≤ n ∧ n ≤ m - from_) ∧ Tell s F T from_ n w e w') := by
  have c0 : w.cell? ⟨v, 0, none⟩ = some (.pointer (some ⟨p, 0, none⟩)) := h.cell 0
  have c1 : w.cell? ⟨v, 1, none⟩ = some (.int .i64 m) := h.cell 1
  have GR := Lib.hid (pread_any I p a mk mw F C T s from_ n w hp hd hl hf)
  have hT := hl.most hd.ok
  clear h hp hd hl
  by_cases hin : 0 ≤ from_ ∧ from_ ≤ m ∧ 0 ≤ n ∧ n ≤ m - from_
  case pos =>
    have e1 : decide (from_ < 0) = false := decide_eq_false (by omega)
    have e2 : decide (m < from_) = false := decide_eq_false (by omega)
    have e3 : decide (n < 0) = false := decide_eq_false (by omega)
    have e4 : decide (m - from_ < n) = false := decide_eq_false (by omega)
    have hb1 : 0 ≤ from_ := hin.1
    have hb2 : from_ ≤ m := hin.2.1
    have HN := Lib.hid hin
    clear hin
    go_enter Tryd.func37, Tryd.ntmps37
    go_wp2_with (go_at_call 49; (with_reducible refine GR.out.mono ?_); rintro e w5 ⟨r5, hp5, v5, rfl, o5, hb5⟩)
    go_ret2
    exact Or.inr ⟨HN.out, r5, hp5, v5, rfl, o5, hb5⟩
  case neg =>
    have hd9 : decide (from_ < 0) = true ∨ (0 ≤ from_ ∧ decide (from_ < 0) = false ∧ (decide (m < from_) = true ∨ (from_ ≤ m ∧ decide (m < from_) = false ∧ (decide (n < 0) = true ∨ (decide (n < 0) = false ∧ decide (m - from_ < n) = true))))) := by
      simp only [decide_eq_true_eq, decide_eq_false_iff_not]
      omega
    have HN := Lib.hid hin
    clear hin GR
    rcases hd9 with e1 | ⟨hb1, e1, e2 | ⟨hb2, e2, e3 | ⟨e3, e4⟩⟩⟩
    all_goals
      go_enter Tryd.func37, Tryd.ntmps37
      go_wp2_with fail
      go_ret2
      exact Or.inl ⟨HN.out, _, rfl, Own.nil _ _ _ _, Below.refl _ _⟩
end Go.Proofs.YtpnodocjpedcmaaDoor.Im

namespace Go.Proofs.YtpnodocjpedcmaaDoor.Im
open Go.ChangeShapes Go.WideShapes Go.ChangeAt Go.RowKit Go.Proofs.YtpnodocjpedcmaaDoor.Kit Go.Proofs.YtpnodocjpedcmaaDoor.Pt
open Go.Proofs.YtpnodocjpedcmaaDoor.Sec (Dv RDv dCells GivesS GivesED)

set_option maxRecDepth 100000 in
set_option maxHeartbeats 3200000 in
/-- The document's region of a slot. -/
theorem rslot_any (S B sl i : Int) (w : World) (hm : Prt.mayB S B sl = true) :
    Calls Tryd.prog 86 #[.agg #[.int .i64 S, .int .i64 B, .int .i64 sl], .int .u8 i] w (Prt.Gives (.agg #[.int .i64 (slotF S B sl i), .int .i64 (sl * (B / S))]) w) := by
  obtain ⟨hS, hB, hs⟩ := Prt.may_facts hm
  have GL := Lib.hid (fun W => Prt.rlayout_any S B sl (B / S) W hS hB hs rfl)
  unfold Prt.mapV at GL
  unfold slotF
  generalize B / S = q at GL ⊢
  generalize sl * q = p at GL ⊢
  clear hS hB hs hm
  by_cases hi : i = 0
  · subst hi
    rw [if_pos rfl]
    go_enter Tryd.func86, Tryd.ntmps86
    go_upto_region 2 with (go_at_call 27; (with_reducible refine (GL.out _).mono ?_); rintro e w2 ⟨rfl, hb2⟩)
    have B1 : Below w.heap.size w ((w.alloc (.cells #[.int .i64 S, .int .i64 B, .int .i64 sl] 61)).alloc (.cells #[.int .i64 0, .int .i64 0] 42)) := ((Below.refl _ _).alloc (Nat.le_refl _) _).alloc (by simp) _
    have Z1 := Block.new (w.alloc (.cells #[.int .i64 S, .int .i64 B, .int .i64 sl] 61)) 42 #[.int .i64 0, .int .i64 0]
    rw [show (w.alloc (.cells #[.int .i64 S, .int .i64 B, .int .i64 sl] 61)).heap.size = w.heap.size + 1 by simp] at Z1
    have Z2 := Z1.below hb2 Z1.lt
    have B2 := B1.trans (hb2.mono B1.size)
    have hz2 : w.heap.size + 1 < w2.heap.size := Z2.lt
    have M3 := Block.new w2 45 #[.int .i64 0, .int .i64 1, .int .i64 1, .int .i64 1, .int .i64 2, .int .i64 q, .int .i64 (2 + q), .int .i64 p, .int .i64 (2 + q + p), .int .i64 p, .int .i64 (2 + q + p + p)]
    have B3 : Below w.heap.size w (w2.alloc (.cells #[.int .i64 0, .int .i64 1, .int .i64 1, .int .i64 1, .int .i64 2, .int .i64 q, .int .i64 (2 + q), .int .i64 p, .int .i64 (2 + q + p), .int .i64 p, .int .i64 (2 + q + p + p)] 45)) := B2.alloc (by omega) _
    have Z3 := Z2.below (show Below w2.heap.size w2 (w2.alloc (.cells #[.int .i64 0, .int .i64 1, .int .i64 1, .int .i64 1, .int .i64 2, .int .i64 q, .int .i64 (2 + q), .int .i64 p, .int .i64 (2 + q + p), .int .i64 p, .int .i64 (2 + q + p + p)] 45)) from (Below.refl _ _).alloc (Nat.le_refl _) _) Z2.lt
    generalize w2.alloc (.cells #[.int .i64 0, .int .i64 1, .int .i64 1, .int .i64 1, .int .i64 2, .int .i64 q, .int .i64 (2 + q), .int .i64 p, .int .i64 (2 + q + p), .int .i64 p, .int .i64 (2 + q + p + p)] 45) = w3 at *
    generalize w2.heap.size = g at *
    have e6 : w3.cell? ⟨g, 6, none⟩ = some (.int .i64 (2 + q)) := M3.cell 6
    have e7 : w3.cell? ⟨g, 7, none⟩ = some (.int .i64 p) := M3.cell 7
    clear B1 Z1 Z2 B2 M3 hb2
    go_wp2_with (have _t := Z3; refine Sec.wpList_store_blk (cs := #[.int .i64 0, .int .i64 0]) rfl _ _ _ rfl (ds := [.int .i64 (2 + q), .int .i64 p]) (by exact Z3) rfl rfl rfl (by kernel_rfl) (by intro u hu; simp only [List.mem_cons, List.mem_nil_iff, or_false] at hu; rcases hu with rfl | rfl <;> rfl) ?_; clear _t; intro w7 X7 g7)
    have B7 := B3.trans (below_of_grown g7 B3.size fun b hb => by injection hb with hb; omega)
    have r0 : w7.cell? ⟨w.heap.size + 1, 0, none⟩ = some (.int .i64 (2 + q)) := X7.cell 0
    have r1 : w7.cell? ⟨w.heap.size + 1, 1, none⟩ = some (.int .i64 p) := X7.cell 1
    refine bodyPost_ret (v := .agg #[.int .i64 (2 + q), .int .i64 p]) ?_ rfl ⟨rfl, B7⟩
    simp [results, Tryd.results86, go_sem, r0, r1]
  · rw [if_neg hi]
    have e0 : (i == 0) = false := by simpa using hi
    go_enter Tryd.func86, Tryd.ntmps86
    go_upto_region 2 with (go_at_call 27; (with_reducible refine (GL.out _).mono ?_); rintro e w2 ⟨rfl, hb2⟩)
    have B1 : Below w.heap.size w ((w.alloc (.cells #[.int .i64 S, .int .i64 B, .int .i64 sl] 61)).alloc (.cells #[.int .i64 0, .int .i64 0] 42)) := ((Below.refl _ _).alloc (Nat.le_refl _) _).alloc (by simp) _
    have Z1 := Block.new (w.alloc (.cells #[.int .i64 S, .int .i64 B, .int .i64 sl] 61)) 42 #[.int .i64 0, .int .i64 0]
    rw [show (w.alloc (.cells #[.int .i64 S, .int .i64 B, .int .i64 sl] 61)).heap.size = w.heap.size + 1 by simp] at Z1
    have Z2 := Z1.below hb2 Z1.lt
    have B2 := B1.trans (hb2.mono B1.size)
    have hz2 : w.heap.size + 1 < w2.heap.size := Z2.lt
    have M3 := Block.new w2 45 #[.int .i64 0, .int .i64 1, .int .i64 1, .int .i64 1, .int .i64 2, .int .i64 q, .int .i64 (2 + q), .int .i64 p, .int .i64 (2 + q + p), .int .i64 p, .int .i64 (2 + q + p + p)]
    have B3 : Below w.heap.size w (w2.alloc (.cells #[.int .i64 0, .int .i64 1, .int .i64 1, .int .i64 1, .int .i64 2, .int .i64 q, .int .i64 (2 + q), .int .i64 p, .int .i64 (2 + q + p), .int .i64 p, .int .i64 (2 + q + p + p)] 45)) := B2.alloc (by omega) _
    have Z3 := Z2.below (show Below w2.heap.size w2 (w2.alloc (.cells #[.int .i64 0, .int .i64 1, .int .i64 1, .int .i64 1, .int .i64 2, .int .i64 q, .int .i64 (2 + q), .int .i64 p, .int .i64 (2 + q + p), .int .i64 p, .int .i64 (2 + q + p + p)] 45)) from (Below.refl _ _).alloc (Nat.le_refl _) _) Z2.lt
    generalize w2.alloc (.cells #[.int .i64 0, .int .i64 1, .int .i64 1, .int .i64 1, .int .i64 2, .int .i64 q, .int .i64 (2 + q), .int .i64 p, .int .i64 (2 + q + p), .int .i64 p, .int .i64 (2 + q + p + p)] 45) = w3 at *
    generalize w2.heap.size = g at *
    have e6 : w3.cell? ⟨g, 8, none⟩ = some (.int .i64 (2 + q + p)) := M3.cell 8
    have e7 : w3.cell? ⟨g, 9, none⟩ = some (.int .i64 p) := M3.cell 9
    clear B1 Z1 Z2 B2 M3 hb2
    go_wp2_with (have _t := Z3; refine Sec.wpList_store_blk (cs := #[.int .i64 0, .int .i64 0]) rfl _ _ _ rfl (ds := [.int .i64 (2 + q + p), .int .i64 p]) (by exact Z3) rfl rfl rfl (by kernel_rfl) (by intro u hu; simp only [List.mem_cons, List.mem_nil_iff, or_false] at hu; rcases hu with rfl | rfl <;> rfl) ?_; clear _t; intro w7 X7 g7)
    have B7 := B3.trans (below_of_grown g7 B3.size fun b hb => by injection hb with hb; omega)
    have r0 : w7.cell? ⟨w.heap.size + 1, 0, none⟩ = some (.int .i64 (2 + q + p)) := X7.cell 0
    have r1 : w7.cell? ⟨w.heap.size + 1, 1, none⟩ = some (.int .i64 p) := X7.cell 1
    refine bodyPost_ret (v := .agg #[.int .i64 (2 + q + p), .int .i64 p]) ?_ rfl ⟨rfl, B7⟩
    simp [results, Tryd.results86, go_sem, r0, r1]

theorem field1 (v0 v1 v2 v3 v4 v5 v6 v7 v8 v9 v10 : Value) (w : World) : (Instr.field 45 (.agg #[v0, v1, v2, v3, v4, v5, v6, v7, v8, v9, v10]) 1).run Tryd.prog w = .ok (.agg #[v4, v5]) w := by kernel_rfl

/-- The document's device and its layout, side by side where a call begins. -/
structure RGo (w W : World) (s : Dv) (Ak : Option Addr) (ck : Nat) (Aw : Option Addr) (cw : Nat) (S B sl : Int) : Prop where
  x : Block W w.heap.size 31 (dCells Ak ck Aw cw s)
  y : Block W (w.heap.size + 1) 61 #[.int .i64 S, .int .i64 B, .int .i64 sl]
  r : RDv W (.agg (dCells Ak ck Aw cw s)) s
  b : Below w.heap.size w W
section
variable {w W W' : World} {s : Dv} {Ak : Option Addr} {ck : Nat} {Aw : Option Addr} {cw : Nat} {S B sl : Int}
theorem RGo.below (h : RGo w W s Ak ck Aw cw S B sl) (hb : Below W.heap.size W W') : RGo w W' s Ak ck Aw cw S B sl :=
  ⟨h.x.below hb h.x.lt, h.y.below hb h.y.lt, h.r.below hb, h.b.trans (hb.mono h.b.size)⟩
theorem RGo.start (h : RDv w (.agg (dCells Ak ck Aw cw s)) s) : RGo w ((w.alloc (.cells (dCells Ak ck Aw cw s) 31)).alloc (.cells #[.int .i64 S, .int .i64 B, .int .i64 sl] 61)) s Ak ck Aw cw S B sl := by
  have hX := Block.new w 31 (dCells Ak ck Aw cw s)
  have b1 : Below w.heap.size w (w.alloc (.cells (dCells Ak ck Aw cw s) 31)) := (Below.refl _ _).alloc (Nat.le_refl _) _
  have hY := Block.new (w.alloc (.cells (dCells Ak ck Aw cw s) 31)) 61 #[.int .i64 S, .int .i64 B, .int .i64 sl]
  have b2 : Below w.heap.size w ((w.alloc (.cells (dCells Ak ck Aw cw s) 31)).alloc (.cells #[.int .i64 S, .int .i64 B, .int .i64 sl] 61)) := b1.alloc b1.size _
  rw [show (w.alloc (.cells (dCells Ak ck Aw cw s) 31)).heap.size = w.heap.size + 1 by simp] at hY
  exact ⟨hX.below ((Below.refl _ _).alloc (Nat.le_refl _) _) hX.lt, hY, h.below b2, b2⟩
theorem RGo.cells (h : RGo w W s Ak ck Aw cw S B sl) : W.cell? ⟨w.heap.size, 0, none⟩ = some (.int .i64 s.size) ∧ W.cell? ⟨w.heap.size, 1, none⟩ = some (.int .i64 s.count) ∧ W.cell? ⟨w.heap.size, 2, none⟩ = some (.slice Ak s.kept.length ck) ∧ W.cell? ⟨w.heap.size, 3, none⟩ = some (.slice Aw s.waits.length cw) ∧ W.cell? ⟨w.heap.size, 4, none⟩ = some (.bool s.off) ∧ W.cell? ⟨w.heap.size, 5, none⟩ = some (.int .i64 s.offs) ∧ W.cell? ⟨w.heap.size, 6, none⟩ = some (.int .i64 s.fuse) ∧ W.cell? ⟨w.heap.size, 7, none⟩ = some (.int .u64 s.wr) ∧ W.cell? ⟨w.heap.size + 1, 0, none⟩ = some (.int .i64 S) ∧ W.cell? ⟨w.heap.size + 1, 1, none⟩ = some (.int .i64 B) ∧ W.cell? ⟨w.heap.size + 1, 2, none⟩ = some (.int .i64 sl) :=
  ⟨h.x.cell 0, h.x.cell 1, h.x.cell 2, h.x.cell 3, h.x.cell 4, h.x.cell 5, h.x.cell 6, h.x.cell 7, h.y.cell 0, h.y.cell 1, h.y.cell 2⟩
end

set_option maxRecDepth 100000 in
set_option maxHeartbeats 3200000 in
/-- What stands aside, the document's. -/
theorem rkept_any (v : Value) (s : Dv) (S B sl n : Int) (w : World) (h : RDv w v s) (hok : s.Ok) (hwh : Whole s) (hL : LayOk S B sl s) :
    Calls Tryd.prog 61 #[v, .agg #[.int .i64 S, .int .i64 B, .int .i64 sl], .int .i64 n] w fun e w' => ∃ r, PRead s 2 B.toNat 0 n r ∧ GivesS r.1 r.2 w e w' := by
  obtain ⟨hS, hB, hs⟩ := Prt.may_facts hL.m
  have GL := Lib.hid (fun W => Prt.rlayout_any S B sl (B / S) W hS hB hs rfl)
  unfold Prt.mapV at GL
  have GR := Lib.hid (fun v W (h : RDv W v s) => rpread_any v s 2 (B / S) B.toNat 0 n W h hok hwh hL.aside (by omega))
  obtain ⟨Ak, ck, Aw, cw, rfl, hr⟩ := h
  have G3 : RGo w _ s Ak ck Aw cw S B sl := RGo.start ⟨Ak, ck, Aw, cw, rfl, hr⟩
  have hf := field1
  clear hr hok hwh hL hS hB hs
  generalize B / S = q at GL GR
  generalize sl * q = p at GL
  have HG := Lib.hid G3
  clear G3
  unfold dCells at HG ⊢
  go_enter Tryd.func61, Tryd.ntmps61
  go_upto_region 1 with fail
  generalize (w.alloc _).alloc _ = w3 at *
  have G4 : Hid (RGo w w3.drew s Ak ck Aw cw S B sl) := Lib.hid (RGo.below HG.out (below_draws (Below.refl _ _) 1))
  go_region_held3 (fun W' => W'.cell? ⟨w.heap.size, 0, none⟩ = some (.int .i64 s.size) ∧ W'.cell? ⟨w.heap.size, 1, none⟩ = some (.int .i64 s.count) ∧ W'.cell? ⟨w.heap.size, 2, none⟩ = some (.slice Ak s.kept.length ck) ∧ W'.cell? ⟨w.heap.size, 3, none⟩ = some (.slice Aw s.waits.length cw) ∧ W'.cell? ⟨w.heap.size, 4, none⟩ = some (.bool s.off) ∧ W'.cell? ⟨w.heap.size, 5, none⟩ = some (.int .i64 s.offs) ∧ W'.cell? ⟨w.heap.size, 6, none⟩ = some (.int .i64 s.fuse) ∧ W'.cell? ⟨w.heap.size, 7, none⟩ = some (.int .u64 s.wr) ∧ W'.cell? ⟨w.heap.size + 1, 0, none⟩ = some (.int .i64 S) ∧ W'.cell? ⟨w.heap.size + 1, 1, none⟩ = some (.int .i64 B) ∧ W'.cell? ⟨w.heap.size + 1, 2, none⟩ = some (.int .i64 sl))
    (first | exact HG.out.cells | exact G4.out.cells | exact G5.cells | exact G6.cells)
    (first
      | (go_at_call 27; refine (GL.out _).mono ?_; rintro e w5 ⟨rfl, hb5⟩; have G5 := G4.out.below hb5)
      | (have _t := G5; go_at_call 87; refine (GR.out _ _ G5.r).mono ?_; rintro e w6 ⟨r, hr, rfl, hb6⟩; have G6 := G5.below hb6))
  go_wp2_with fail
  go_ret2
  exact ⟨r, hr, rfl, G6.b⟩

set_option maxRecDepth 100000 in
set_option maxHeartbeats 3200000 in
/-- Bytes of a view, the document's. -/
theorem rrange_any (v : Value) (s : Dv) (S B sl i view from_ n : Int) (w : World) (h : RDv w v s) (hok : s.Ok) (hwh : Whole s) (hL : LayOk S B sl s) (hf : -9223372036854775808 ≤ from_ ∧ from_ ≤ 9223372036854775807) :
    Calls Tryd.prog 64 #[v, .agg #[.int .i64 S, .int .i64 B, .int .i64 sl], .int .u8 i, .int .i64 view, .int .i64 from_, .int .i64 n] w fun e w' =>
      (¬ (0 ≤ from_ ∧ from_ ≤ min (max view 0) (B * sl) ∧ 0 ≤ n ∧ n ≤ min (max view 0) (B * sl) - from_) ∧ GivesS [] 5 w e w') ∨
        ((0 ≤ from_ ∧ from_ ≤ min (max view 0) (B * sl) ∧ 0 ≤ n ∧ n ≤ min (max view 0) (B * sl) - from_) ∧ ∃ r, PRead s (slotF S B sl i) (B * sl).toNat from_ n r ∧ GivesS r.1 r.2 w e w') := by
  obtain ⟨hS, hB, hs, hdd, hq, h0, h1, h2, h3⟩ := hL.facts
  have GL := Lib.hid (fun W => rslot_any S B sl i W hL.m)
  have GR := Lib.hid (fun v W (h : RDv W v s) => rpread_any v s _ _ _ from_ n W h hok hwh (hL.lies i) hf)
  obtain ⟨Ak, ck, Aw, cw, rfl, hr⟩ := h
  have G3 : RGo w _ s Ak ck Aw cw S B sl := RGo.start ⟨Ak, ck, Aw, cw, rfl, hr⟩
  obtain ⟨C, hC⟩ : ∃ C, B * sl = C := ⟨_, rfl⟩
  have hw : IntKind.i64.wrap (B * sl) = C := by rw [hC]; exact IntWalk.i64_in _ (by omega)
  rw [hC] at GR ⊢
  obtain ⟨m, hm⟩ : ∃ m, min (max view 0) C = m := ⟨_, rfl⟩
  have hm0 : 0 ≤ m ∧ m ≤ 16777216 := by omega
  have HM := Lib.hid hm
  rw [hm]
  clear hr hok hwh hL hS hB hs hdd hq h2 h3 hm
  generalize slotF S B sl i = F at GL GR ⊢
  generalize sl * (B / S) = p at GL GR
  rw [hC] at h0 h1
  have HG := Lib.hid G3
  clear G3 hC
  unfold dCells at HG ⊢
  by_cases hin : 0 ≤ from_ ∧ from_ ≤ m ∧ 0 ≤ n ∧ n ≤ m - from_
  case neg =>
    have hd9 : decide (from_ < 0) = true ∨ (decide (from_ < 0) = false ∧ (decide (n < 0) = true ∨ (decide (n < 0) = false ∧ (decide (m < from_) = true ∨ (0 ≤ from_ ∧ from_ ≤ m ∧ decide (m < from_) = false ∧ decide (m - from_ < n) = true))))) := by
      simp only [decide_eq_true_eq, decide_eq_false_iff_not]
      omega
    have HN := Lib.hid hin
    clear hin GR GL
    rcases hd9 with e1 | ⟨e1, e2 | ⟨e2, e3 | ⟨hb1, hb2, e3, e4⟩⟩⟩
    all_goals
      go_enter Tryd.func64, Tryd.ntmps64
      go_upto_region 1 with fail
      generalize (w.alloc _).alloc _ = w3 at *
      have c1 : w3.cell? ⟨w.heap.size + 1, 1, none⟩ = some (.int .i64 B) := HG.out.y.cell 1
      have c2 : w3.cell? ⟨w.heap.size + 1, 2, none⟩ = some (.int .i64 sl) := HG.out.y.cell 2
      go_upto_region 2 with fail
      try rw [HM.out]
      clear hw
      go_wp2_with fail
      go_ret2
      exact Or.inl ⟨HN.out, rfl, HG.out.b⟩
  case pos =>
    have e1 : decide (from_ < 0) = false := decide_eq_false (by omega)
    have e2 : decide (n < 0) = false := decide_eq_false (by omega)
    have e3 : decide (m < from_) = false := decide_eq_false (by omega)
    have e4 : decide (m - from_ < n) = false := decide_eq_false (by omega)
    have hb1 : 0 ≤ from_ := hin.1
    have hb2 : from_ ≤ m := hin.2.1
    have HN := Lib.hid hin
    clear hin
    go_enter Tryd.func64, Tryd.ntmps64
    go_upto_region 1 with fail
    generalize (w.alloc _).alloc _ = w3 at *
    have c1 : w3.cell? ⟨w.heap.size + 1, 1, none⟩ = some (.int .i64 B) := HG.out.y.cell 1
    have c2 : w3.cell? ⟨w.heap.size + 1, 2, none⟩ = some (.int .i64 sl) := HG.out.y.cell 2
    go_upto_region 2 with fail
    try rw [HM.out]
    clear hw
    go_upto_region 4 with fail
    clear c1 c2
    have G4 : Hid (RGo w w3.drew s Ak ck Aw cw S B sl) := Lib.hid (RGo.below HG.out (below_draws (Below.refl _ _) 1))
    go_region_held3 (fun W' => W'.cell? ⟨w.heap.size, 0, none⟩ = some (.int .i64 s.size) ∧ W'.cell? ⟨w.heap.size, 1, none⟩ = some (.int .i64 s.count) ∧ W'.cell? ⟨w.heap.size, 2, none⟩ = some (.slice Ak s.kept.length ck) ∧ W'.cell? ⟨w.heap.size, 3, none⟩ = some (.slice Aw s.waits.length cw) ∧ W'.cell? ⟨w.heap.size, 4, none⟩ = some (.bool s.off) ∧ W'.cell? ⟨w.heap.size, 5, none⟩ = some (.int .i64 s.offs) ∧ W'.cell? ⟨w.heap.size, 6, none⟩ = some (.int .i64 s.fuse) ∧ W'.cell? ⟨w.heap.size, 7, none⟩ = some (.int .u64 s.wr) ∧ W'.cell? ⟨w.heap.size + 1, 0, none⟩ = some (.int .i64 S) ∧ W'.cell? ⟨w.heap.size + 1, 1, none⟩ = some (.int .i64 B) ∧ W'.cell? ⟨w.heap.size + 1, 2, none⟩ = some (.int .i64 sl))
      (first | exact HG.out.cells | exact G4.out.cells | exact G5.cells | exact G6.cells)
      (first
        | (go_at_call 86; refine (GL.out _).mono ?_; rintro e w5 ⟨rfl, hb5⟩; have G5 := G4.out.below hb5)
        | (have _t := G5; go_at_call 87; refine (GR.out _ _ G5.r).mono ?_; rintro e w6 ⟨r, hr, rfl, hb6⟩; have G6 := G5.below hb6))
    go_wp2_with fail
    go_ret2
    exact Or.inr ⟨HN.out, r, hr, rfl, G6.b⟩
end Go.Proofs.YtpnodocjpedcmaaDoor.Im

namespace Go.Proofs.YtpnodocjpedcmaaDoor.Im
open Go.ChangeShapes Go.WideShapes Go.ChangeAt Go.RowKit Go.Proofs.YtpnodocjpedcmaaDoor.Kit Go.Proofs.YtpnodocjpedcmaaDoor.Pt
open Go.Proofs.YtpnodocjpedcmaaDoor.Sec (Dv DvAt DSet GivesB)
open Go.Proofs.YtpnodocjpedcmaaDoor.Sha (LaidS sumL sumL_length HashIs write_any hsum_any new_at far_of cubes_length)

def sumOf (r : List Int × Int) : List Int := if r.2 = 0 then sumL r.1 else zeros32
theorem sumOf_length (r : List Int × Int) : (sumOf r).length = 32 := by
  unfold sumOf
  split
  · exact sumL_length _
  · rfl

set_option maxRecDepth 100000 in
set_option maxHeartbeats 3200000 in
theorem isum_no (x a p0 p1 p2 : Nat) (S B sl i n : Int) (s : Dv) (w : World) (h : ImAt w x a S B sl p0 p1 p2) (hL : LayOk S B sl s) (hn : ¬ (0 ≤ n ∧ n ≤ B * sl)) :
    Calls Tryd.prog 33 #[.pointer (some ⟨x, 0, none⟩), .int .u8 i, .int .i64 n] w fun e w' => e = .returned (.tuple #[arrV .u8 zeros32, .int .i64 5]) ∧ Below w.heap.size w w' := by
  obtain ⟨hS, hB, hs, hdd, hq, h0, h1, h2, h3⟩ := hL.facts
  have Hz := Lib.hid (show zeros32.length = 32 from rfl)
  have hBz := Lib.hid build_zeros
  have r0 := res_new w 48
  have b0 : Below w.heap.size w (w.alloc (.cells ((List.replicate 32 (0 : Int)).map (Value.int .u8)).toArray 48)) := (Below.refl _ _).alloc (Nat.le_refl _) _
  have GC := Lib.hid (fun W h => cap_any x a S B sl p0 p1 p2 W h ⟨h0, h1⟩)
  have h' := Lib.hid (h.below b0)
  generalize zeros32 = ys at *
  generalize B * sl = C at *
  have hd9 : decide (n < 0) = true ∨ (decide (n < 0) = false ∧ decide (C < n) = true) := by
    simp only [decide_eq_true_eq, decide_eq_false_iff_not]
    omega
  clear h hL hn
  rcases hd9 with e1 | ⟨e1, e2⟩
  all_goals
    go_enter Tryd.func33, Tryd.ntmps33
    go_wp2_with (first
      | (go_at_call 29; refine (GC.out _ h'.out).mono ?_; rintro e w3 ⟨rfl, n3, rfl⟩; have r3 := Block.drewN r0 n3; have b3 := below_draws b0 n3; clear r0 b0)
      | (refine wpList_build_zeros rfl _ _ rfl (arrV .u8 ys) (fun W => by simpa using hBz.out W) ?_)
      | (have _t := r3; refine wpList_store_arr rfl _ _ _ rfl (ys := ys) r3 rfl rfl (by rw [Hz.out]; rfl) (by rw [Hz.out]; kernel_rfl) ?_; clear _t; intro w9 r9 g9)
      | (have _t := r0; refine wpList_store_arr rfl _ _ _ rfl (ys := ys) r0 rfl rfl (by rw [Hz.out]; rfl) (by rw [Hz.out]; kernel_rfl) ?_; clear _t; intro w9 r9 g9))
    refine bodyPost_ret (v := .tuple #[arrV .u8 ys, .int .i64 5]) (results_row_tmp rfl _ _ w.heap.size 48 _ (0, 0) _ rfl r9 _ rfl Tryd.underlying48 rfl (by rw [show (ys.map (Value.int .u8)).toArray.size = 32 by simp [Hz.out]]; kernel_rfl)) rfl ⟨rfl, ?_⟩
    first
      | exact b0.trans (below_of_grown g9 b0.size fun b hb => by injection hb with hb; omega)
      | exact b3.trans (below_of_grown g9 b3.size fun b hb => by injection hb with hb; omega)

/-- Between the pieces. -/
structure SGo (w W : World) (I : Nat → Prop) (x a mk mw p0 p1 p2 : Nat) (S B sl : Int) (s : Dv) (F : Int) (m : Nat) : Prop where
  d : DvAt W I a mk mw s
  i : ImAt W x a S B sl p0 p1 p2
  b : Below w.heap.size w W
  r : Arr W w.heap.size 48 .u8 (List.replicate 32 0)
  h : HashIs W (w.heap.size + 1) (rowP s F 0 m)
  ok : OkP s F 0 m
theorem SGo.below {w W W' : World} {I : Nat → Prop} {x a mk mw p0 p1 p2 : Nat} {S B sl : Int} {s : Dv} {F : Int} {m : Nat} (h : SGo w W I x a mk mw p0 p1 p2 S B sl s F m) (hb : Below W.heap.size W W') : SGo w W' I x a mk mw p0 p1 p2 S B sl s F m :=
  ⟨h.d.below hb, h.i.below hb, h.b.trans (hb.mono h.b.size), Block.below h.r hb (Block.lt h.r), h.h.out (S := fun _ => False) (.ofNew hb) id, h.ok⟩

set_option maxRecDepth 100000 in
set_option maxHeartbeats 12800000 in
theorem isum_yes (I : Nat → Prop) (x a mk mw p0 p1 p2 : Nat) (S B sl i : Int) (n : Nat) (s : Dv) (w : World) (h : ImAt w x a S B sl p0 p1 p2) (hd : DvAt w I a mk mw s) (hL : LayOk S B sl s) (hi : 0 ≤ i ∧ i ≤ 255) (hn : (n : Int) ≤ B * sl) (hLS : LaidS w) :
    Calls Tryd.prog 33 #[.pointer (some ⟨x, 0, none⟩), .int .u8 i, .int .i64 n] w fun e w' => ∃ r, ReadsP s (slotF S B sl i) 0 n r ∧ e = .returned (.tuple #[arrV .u8 (sumOf r), .int .i64 r.2]) ∧ Below w.heap.size w w' := by
  obtain ⟨hS, hB, hs, hdd, hq, h0, h1, h2, h3⟩ := hL.facts
  have hwh := whole_of hd
  obtain ⟨b, rfl⟩ : ∃ b : Nat, B = b := ⟨B.toNat, by omega⟩
  have Hz := Lib.hid (show zeros32.length = 32 from rfl)
  have hBz := Lib.hid build_zeros
  have r0 : Arr (w.alloc (.cells ((List.replicate 32 (0 : Int)).map (Value.int .u8)).toArray 48)) w.heap.size 48 .u8 (List.replicate 32 0) := Arr.new w _ _ _
  have b0 : Below w.heap.size w (w.alloc (.cells ((List.replicate 32 (0 : Int)).map (Value.int .u8)).toArray 48)) := (Below.refl _ _).alloc (Nat.le_refl _) _
  have GC := Lib.hid (fun W h => cap_any x a S b sl p0 p1 p2 W h ⟨h0, h1⟩)
  have i0 := Lib.hid (h.below b0)
  have d0 := Lib.hid (hd.below b0)
  have hzz : zeros32 = List.replicate 32 0 := rfl
  have HT := Lib.hid (hL.lies i).t
  have GSL := Lib.hid (fun W (h : ImAt W x a S b sl p0 p1 p2) => (slot_any x a p0 p1 p2 S b sl i W h hi).mono fun e w' h => (⟨h.1, h.2.symm⟩ : e = .returned (.pointer (some ⟨slotP p0 p1 i, 0, none⟩)) ∧ w' = W))
  have hcap : ((b : Int) * sl).toNat = ((b : Int) * sl).toNat := rfl
  have GR : Hid (∀ W (m at_ : Nat), at_ + m ≤ n → DvAt W I a mk mw s → ImAt W x a S b sl p0 p1 p2 → Calls Tryd.prog 49 #[.pointer (some ⟨slotP p0 p1 i, 0, none⟩), .int .i64 at_, .int .i64 m] W fun e w' => ∃ r, ReadsP s (slotF S b sl i) at_ m r ∧ GivesB r.1 r.2 W e w') := Lib.hid (fun W m at_ hle hd hi => by
    refine (pread_any I (slotP p0 p1 i) a mk mw (slotF S b sl i) (sl * ((b : Int) / S)) ((b : Int) * sl).toNat s at_ m W (hi.slot i) hd (hL.lies i) (by omega)).mono ?_
    rintro e w' ⟨r, hr, hg⟩
    exact ⟨r, pread_in hr (by omega), hg⟩)
  have HLS := Lib.hid (fun W (hb : Below w.heap.size w W) => hLS.below hb)
  have hg0 : w.heap.size + 1 ≠ 0 := by have := hLS.lt (by rw [cubes_length]; omega); omega
  generalize slotF S b sl i = F at *
  have GWR : Hid (∀ W xs A ys c, HashIs W (w.heap.size + 1) xs → xs.length + ys.length ≤ 1099511627776 → Octets xs → ys.length ≤ c → c ≤ maxLen → Octets ys → Holds W W.heap.size .u8 A ys → Sha.Far (w.heap.size + 1) A ys → LaidS W → Calls Tryd.prog 67 #[.pointer (some ⟨w.heap.size + 1, 0, none⟩), .slice A ys.length c] W fun e w' => e = .returned (.tuple #[]) ∧ HashIs w' (w.heap.size + 1) (xs ++ ys) ∧ TurnsIn (· = w.heap.size + 1) W w') := Lib.hid (fun W xs A ys c q1 q2 q3 q4 q5 q6 q7 q8 q9 => write_any (w.heap.size + 1) xs A ys c W q1 q2 q3 q4 q5 q6 q7 q8 q9 hg0)
  have GSU : Hid (∀ W xs, HashIs W (w.heap.size + 1) xs → xs.length ≤ 1000000000 → Octets xs → LaidS W → Calls Tryd.prog 68 #[.pointer (some ⟨w.heap.size + 1, 0, none⟩)] W fun e w' => e = .returned (arrV .u8 (sumL xs)) ∧ Below W.heap.size W w') := Lib.hid (fun W xs q1 q2 q3 q4 => hsum_any (w.heap.size + 1) xs W q1 q2 q3 q4 hg0)
  have GNW : Hid (∀ W, W.heap.size = w.heap.size + 1 → Calls Tryd.prog 65 #[] W fun e w' => e = .returned (.pointer (some ⟨w.heap.size + 1, 0, none⟩)) ∧ HashIs w' (w.heap.size + 1) [] ∧ Below W.heap.size W w') := Lib.hid (fun W h => by
    have := Sha.new_any W
    rwa [h] at this ⊢)
  have hnn : n ≤ 16777216 := by omega
  have e1 : decide ((n : Int) < 0) = false := decide_eq_false (by omega)
  have e2 : decide ((b : Int) * sl < (n : Int)) = false := decide_eq_false (by omega)
  have hb1 : 128 ≤ b ∧ b ≤ 4096 := by omega
  clear h hd hL hS hs hdd hq h0 h1 h2 h3 hn hLS hcap hB HT
  go_enter Tryd.func33, Tryd.ntmps33
  go_wp2_with (first
    | (go_at_call 29; refine (GC.out _ i0.out).mono ?_; rintro e w3 ⟨rfl, n3, rfl⟩; have r3 := Block.drewN r0 n3; have b3 := below_draws b0 n3; have d3 := d0.out.below (below_draws (Below.refl _ _) n3); have i3 := i0.out.below (below_draws (Below.refl _ _) n3); have z3 : ((w.alloc (.cells ((List.replicate 32 (0 : Int)).map (Value.int .u8)).toArray 48)).drewN n3).heap.size = w.heap.size + 1 := by simp [World.drewN])
    | (go_at_call 65; refine (GNW.out _ z3).mono ?_; rintro e w4 ⟨rfl, h4, hb4⟩; have S4 : SGo w w4 I x a mk mw p0 p1 p2 S b sl s F 0 := ⟨d3.below hb4, i3.below hb4, b3.trans (hb4.mono b3.size), Block.below r3 hb4 (Block.lt r3), h4, okP_none s F 0⟩; clear d3 i3 b3 hb4 r3 h4))
  clear r0 b0 i0 d0 GC z3 GNW e1 e2
  go_loopw [9] (fun q W => ∃ j : Nat, (j * b ≤ n + b) ∧ q = .int .i64 ((j * b : Nat) : Int) ∧ SGo w W I x a mk mw p0 p1 p2 S b sl s F (min (j * b) n)) (fun q _ => (n + b - (intOf q).toNat))
  case atStart => exact ⟨0, by omega, by rw [Nat.zero_mul]; rfl, by rw [Nat.zero_mul, Nat.zero_min]; exact S4⟩
  case round =>
    obtain ⟨j, hj, rfl, G⟩ := hrel
    clear S4
    obtain ⟨t, ht⟩ : ∃ t, j * b = t := ⟨_, rfl⟩
    have hjt : (j + 1) * b = t + b := by rw [Nat.add_mul, ht, Nat.one_mul]
    have HJT := Lib.hid hjt
    have HJ := Lib.hid ht
    rw [ht] at hj G ⊢
    clear ht hjt
    by_cases hlt : t < n
    case neg =>
      have hmin : min t n = n := by omega
      rw [hmin] at G
      have d1 : decide (t < n) = false := decide_eq_false hlt
      have d2 : decide ((t : Int) < (n : Int)) = false := decide_eq_false (by omega)
      have hok := G.ok
      have hoc := rowP_octets hwh hok
      have hlen := rowP_length s F 0 n
      have GS := Lib.hid (GSU.out wr _ G.h (by omega) hoc (HLS.out wr G.b))
      have hres : Hid (ReadsP s F 0 n (rowP s F 0 n, 0)) := Lib.hid (whole_done hok)
      have hsl := Lib.hid (sumL_length (rowP s F 0 n))
      have Gr := G.r
      have Gb := G.b
      clear hok hoc hlen G hmin
      go_wp2_with (first
        | (go_at_call 68; refine GS.out.mono ?_; rintro e w5 ⟨rfl, hb5⟩; have r5 : Arr w5 w.heap.size 48 .u8 (List.replicate 32 0) := Block.below Gr hb5 (Block.lt Gr))
        | (have _t := r5; refine wpList_store_arr rfl _ _ _ rfl (ys := sumL (rowP s F 0 n)) r5 rfl rfl (by rw [hsl.out]; rfl) (by rw [hsl.out]; kernel_rfl) ?_; clear _t; intro w9 r9 g9))
      have hb6 := Gb.trans (hb5.mono Gb.size)
      refine bodyPost_ret (v := .tuple #[arrV .u8 (sumL (rowP s F 0 n)), .int .i64 0]) (results_row_tmp rfl _ _ w.heap.size 48 _ (0, 0) _ rfl r9 _ rfl Tryd.underlying48 rfl (by rw [show ((sumL (rowP s F 0 n)).map (Value.int .u8)).toArray.size = 32 by simp [sumL_length]]; kernel_rfl)) rfl ⟨_, hres.out, rfl, ?_⟩
      exact hb6.trans (below_of_grown g9 hb6.size fun b hb => by injection hb with hb; omega)
    case pos =>
      have hmin : min t n = t := by omega
      rw [hmin] at G
      have d1 : decide (t < n) = true := decide_eq_true hlt
      have d2 : decide ((t : Int) < (n : Int)) = true := decide_eq_true (by omega)
      obtain ⟨m, hm⟩ : ∃ m, min b (n - t) = m := ⟨_, rfl⟩
      have hmi : min (b : Int) ((n : Int) - (t : Int)) = (m : Int) := by omega
      have hwr : IntKind.i64.wrap ((n : Int) - (t : Int)) = (n : Int) - (t : Int) := IntWalk.i64_in _ (by omega)
      have hm1 : 1 ≤ m ∧ t + m ≤ n ∧ m ≤ b := by omega
      have hnext : min (t + b) n = t + m := by omega
      have HNX := Lib.hid hnext
      have HOK := Lib.hid G.ok
      clear hm hnext hmin
      go_upto_region 9 with fail
      have c1 : wr.cell? ⟨x, 1, none⟩ = some (.int .i64 b) := G.i.x.cell 1
      have Gd := G.below (below_draws (Below.refl wr.heap.size wr) 1)
      change SGo w wr.drew I x a mk mw p0 p1 p2 S b sl s F t at Gd
      have c1d : wr.drew.cell? ⟨x, 1, none⟩ = some (.int .i64 b) := Gd.i.x.cell 1
      have GSL1 := Lib.hid (GSL.out wr.drew Gd.i)
      have GR1 := Lib.hid (GR.out wr.drew m t (by omega) Gd.d Gd.i)
      clear G
      go_region_held3 (fun W' => W'.cell? ⟨x, 1, none⟩ = some (.int .i64 (b : Int)))
        (first | exact c1 | exact c1d | exact c1e)
        (first
          | (go_at_call 66; (with_reducible refine GSL1.out.mono ?_); rintro e w' ⟨rfl, rfl⟩)
          | (go_at_call 49; (with_reducible refine GR1.out.mono ?_); rintro e w5 ⟨r5, hr5, v5, rfl, o5, hb5⟩; have G5 := Gd.below hb5; have c1e : w5.cell? ⟨x, 1, none⟩ = some (.int .i64 b) := G5.i.x.cell 1))
      all_goals
        clear hmi hwr c1 c1d c1e GSL1
        by_cases he : r5.2 = 0
        case neg =>
          have e1 : (r5.2 != 0) = true := by rw [bne_iff_ne]; exact he
          have hbad : Hid (ReadsP s F 0 n ([], r5.2)) := Lib.hid (reads_bad HOK.out hr5 he (by omega))
          have hso : Hid (sumOf ([], r5.2) = zeros32) := Lib.hid (by unfold sumOf; rw [if_neg he])
          have r6 : Arr w5 w.heap.size 48 .u8 (List.replicate 32 0) := G5.r
          have b6 := G5.b
          clear he hr5 o5 G5 Gd hb5
          obtain ⟨E, hE⟩ : ∃ E, r5.2 = E := ⟨_, rfl⟩
          rw [hE] at e1 hbad hso
          try rw [hE]
          clear hE hzz
          generalize zeros32 = ys at *
          go_wp2_with (first
            | (refine wpList_build_zeros rfl _ _ rfl (arrV .u8 ys) (fun W => by simpa using hBz.out W) ?_)
            | (have _t := r6; refine wpList_store_arr rfl _ _ _ rfl (ys := ys) r6 rfl rfl (by rw [Hz.out]; rfl) (by rw [Hz.out]; kernel_rfl) ?_; clear _t; intro w9 r9 g9))
          refine bodyPost_ret (v := .tuple #[arrV .u8 ys, .int .i64 E]) (results_row_tmp rfl _ _ w.heap.size 48 _ (0, 0) _ rfl r9 _ rfl Tryd.underlying48 rfl (by rw [show (ys.map (Value.int .u8)).toArray.size = 32 by simp [Hz.out]]; kernel_rfl)) rfl ⟨_, hbad.out, by rw [hso.out], ?_⟩
          exact b6.trans (below_of_grown g9 b6.size fun b hb => by injection hb with hb; omega)
        case pos =>
          obtain ⟨hr6, hok6, hrow⟩ := reads_good HOK.out hr5 he
          have e1 : (r5.2 != 0) = false := by simp [he]
          have hoc5 : Octets r5.1 := by
            rw [hr6]
            exact rowP_octets hwh (fun j hj => by have := hok6 (t + j) (by omega); rwa [Nat.zero_add] at this)
          have hl5 : r5.1.length = m := by rw [hr6]; exact rowP_length _ _ _ _
          have hlt0 := rowP_length s F 0 t
          have hoc0 := rowP_octets hwh HOK.out
          obtain ⟨A5, c5, rfl, k1, k2, k3⟩ := o5.opened
          have hfar : Sha.Far (w.heap.size + 1) A5 r5.1 := by
            intro hx a ha
            obtain ⟨g, cap, hv, hge, hlt5, _⟩ := o5.form hx
            injection hv with hv _ _
            rw [hv] at ha
            injection ha with ha
            subst ha
            show g ≠ w.heap.size + 1
            have := Gd.h.lt
            omega
          have GW1 := Lib.hid (GWR.out w5 _ A5 r5.1 c5 G5.h (by omega) hoc0 k1 k2 hoc5 k3 hfar (HLS.out w5 G5.b))
          rw [← hrow] at GW1
          have HN6 : Hid (∀ w6, TurnsIn (· = w.heap.size + 1) w5 w6 → HashIs w6 (w.heap.size + 1) (rowP s F 0 (t + m)) → SGo w w6 I x a mk mw p0 p1 p2 S b sl s F (t + m)) := Lib.hid (fun w6 t6 h6 => by
            obtain ⟨rr, hB, _, _⟩ := G5.h.ex
            have ne : ∀ {g : Nat} {ty : TypeId} {cs : Array Value}, Block w5 g ty cs → ty ≠ 154 → g ≠ w.heap.size + 1 := by
              intro g ty cs hg hne e
              rw [e] at hg
              unfold Sha.HB Block at hB
              unfold Block at hg
              rw [hB] at hg
              injection hg with hg
              injection hg with _ hg _
              exact hne hg.symm
            refine ⟨G5.d.beside hB (by decide) (by decide) t6, ⟨Block.out G5.i.x t6 (ne G5.i.x (by decide)), Block.out G5.i.p0 t6 (ne G5.i.p0 (by decide)), Block.out G5.i.p1 t6 (ne G5.i.p1 (by decide)), Block.out G5.i.p2 t6 (ne G5.i.p2 (by decide))⟩, G5.b.trans (t6.toBelow G5.b.size fun b hb he => by omega), Block.out G5.r t6 (by omega), h6, hok6⟩)
          clear he hr5 o5 hr6 hok6 hrow hoc5 hl5 hlt0 hoc0 hfar k1 k2 k3 Gd hb5
          have c6 : ∀ w6, SGo w w6 I x a mk mw p0 p1 p2 S b sl s F (t + m) → w6.cell? ⟨x, 1, none⟩ = some (.int .i64 b) := fun w6 h => h.i.x.cell 1
          have C6 := Lib.hid c6
          clear c6 G5
          go_wp2_with (go_at_call 67; (with_reducible refine GW1.out.mono ?_); rintro e w6 ⟨rfl, h6, t6⟩; have G6 := HN6.out w6 t6 h6; have c6 := C6.out w6 G6)
          go_roundw
          case rel => exact ⟨j + 1, by rw [HJT.out]; omega, by rw [HJT.out]; go_num, by rw [HJT.out, HNX.out]; exact G6⟩
          case measure => simp [intOf] <;> omega
end Go.Proofs.YtpnodocjpedcmaaDoor.Im

namespace Go.Proofs.YtpnodocjpedcmaaDoor.Jr
open Go.ChangeShapes Go.WideShapes Go.ChangeAt Go.RowKit Go.Proofs.YtpnodocjpedcmaaDoor.Kit Go.Proofs.YtpnodocjpedcmaaDoor.Oct Go.Proofs.YtpnodocjpedcmaaDoor.Sec
open Go.Proofs.YtpnodocjpedcmaaDoor.Pt (Whole secP byteP rowP OkP ReadsP rowP_length piece chunkP chunkP_length padB manyP errS wrS OkW WritesP PRead PWrite On)

/-! ### what is read of sectors -/
def rowF (f : Int → List Int × Int) (i : Int) : List Int := if (f i).2 = 0 then (f i).1.take 99 else []
def GoodF (f : Int → List Int × Int) (i : Int) : Prop := getE (rowF f i) = 0 ∧ (getV (rowF f i)).seq % 2 = i
instance (f : Int → List Int × Int) (i : Int) : Decidable (GoodF f i) := inferInstanceAs (Decidable (_ ∧ _))
def stepF (f : Int → List Int × Int) (p : Rec × Bool) (i : Int) : Rec × Bool := if GoodF f i ∧ (p.2 = false ∨ p.1.seq < (getV (rowF f i)).seq) then (getV (rowF f i), true) else p
/-- The last record. -/
def lastF (f : Int → List Int × Int) : Rec := (stepF f (stepF f (rec0, false) 0) 1).1
/-- A device's sectors read as those of a journal whose last record is r, the k-th one. -/
structure StandsF (f : Int → List Int × Int) (r : Rec) (k : Nat) : Prop where
  seq : r.seq = k
  ok : r.Ok
  zero : k = 0 → r = rec0 ∧ ¬ GoodF f 0 ∧ ¬ GoodF f 1
  pos : 0 < k → GoodF f ((k % 2 : Nat) : Int) ∧ getV (rowF f ((k % 2 : Nat) : Int)) = r
  other : GoodF f (((k + 1) % 2 : Nat) : Int) → (getV (rowF f (((k + 1) % 2 : Nat) : Int))).seq < k

theorem lastF_of {f : Int → List Int × Int} {r : Rec} {k : Nat} (h : StandsF f r k) : lastF f = r := by
  obtain ⟨h1, _, h2, h3, h4⟩ := h
  unfold lastF
  rcases Nat.eq_zero_or_pos k with h0 | h0
  · obtain ⟨e, g0, g1⟩ := h2 h0
    unfold stepF
    rw [if_neg (fun c => g1 c.1), if_neg (fun c => g0 c.1), e]
  · obtain ⟨g, e⟩ := h3 h0
    rcases Nat.mod_two_eq_zero_or_one k with hk | hk
    · have hk1 : (k + 1) % 2 = 1 := by omega
      rw [hk] at g e
      rw [hk1] at h4
      have hs : stepF f (rec0, false) 0 = (r, true) := by
        unfold stepF
        rw [if_pos ⟨g, Or.inl rfl⟩]
        exact Prod.ext e rfl
      rw [hs]
      unfold stepF
      rw [if_neg]
      rintro ⟨c1, c2⟩
      have := h4 c1
      rcases c2 with c2 | c2
      · cases c2
      · simp only [h1] at c2
        have e1 : (((1 : Nat) : Int)) = 1 := rfl
        rw [e1] at this
        omega
    · have hk1 : (k + 1) % 2 = 0 := by omega
      rw [hk] at g e
      rw [hk1] at h4
      have hs : ∀ p : Rec × Bool, (p.2 = false ∨ p.1.seq < k) → (stepF f p 1).1 = r := by
        intro p hp
        unfold stepF
        have e' : getV (rowF f 1) = r := e
        rw [if_pos ⟨g, by rw [e', h1]; exact hp⟩]
        exact e'
      apply hs
      unfold stepF
      by_cases c : GoodF f 0
      · rw [if_pos ⟨c, Or.inl rfl⟩]
        exact Or.inr (h4 c)
      · rw [if_neg (fun x => c x.1)]
        exact Or.inl rfl

theorem good_no {f : Int → List Int × Int} {i : Int} (h : (f i).2 ≠ 0) : ¬ GoodF f i := by
  rintro ⟨c, _⟩
  unfold rowF at c
  rw [if_neg h] at c
  exact absurd c (by decide)
theorem rowF_put {f : Int → List Int × Int} {i : Int} {bs : List Int} {n : Nat} (hb : bs.length = 99) (h : f i = (chunkP n bs 0, 0)) (hn : 99 ≤ n) : rowF f i = bs := by
  unfold rowF
  rw [h, if_pos rfl]
  unfold chunkP padB
  rw [Nat.zero_mul, List.drop_zero, List.take_of_length_le (l := bs) (by omega), ← hb, List.take_left']
  rfl
theorem rowF_same {f g : Int → List Int × Int} {i : Int} (h : f i = g i) : rowF f i = rowF g i := by
  unfold rowF
  rw [h]
theorem goodF_same {f g : Int → List Int × Int} {i : Int} (h : f i = g i) : GoodF f i ↔ GoodF g i := by
  unfold GoodF
  rw [rowF_same h]
theorem stepF_same {f g : Int → List Int × Int} {i : Int} (h : f i = g i) (p : Rec × Bool) : stepF f p i = stepF g p i := by
  unfold stepF
  simp only [goodF_same h, rowF_same h]
theorem lastF_same {f g : Int → List Int × Int} (h0 : f 0 = g 0) (h1 : f 1 = g 1) : lastF f = lastF g := by
  unfold lastF
  rw [stepF_same h0, stepF_same h1]
theorem stands_same {f g : Int → List Int × Int} {r : Rec} {k : Nat} (h : StandsF f r k) (h0 : f 0 = g 0) (h1 : f 1 = g 1) : StandsF g r k := by
  have hh : ∀ n : Nat, n < 2 → f (n : Int) = g (n : Int) := by
    intro n hn
    have : n = 0 ∨ n = 1 := by omega
    rcases this with rfl | rfl
    · exact h0
    · exact h1
  refine ⟨h.seq, h.ok, fun hz => ?_, fun hp => ?_, fun ho => ?_⟩
  · obtain ⟨e, g0, g1⟩ := h.zero hz
    exact ⟨e, fun c => g0 ((goodF_same h0).2 c), fun c => g1 ((goodF_same h1).2 c)⟩
  · have e := hh (k % 2) (by omega)
    obtain ⟨a, b⟩ := h.pos hp
    exact ⟨(goodF_same e).1 a, by rw [← rowF_same e]; exact b⟩
  · have e := hh ((k + 1) % 2) (by omega)
    rw [← rowF_same e]
    exact h.other ((goodF_same e).2 ho)
/-- The next one is written. -/
theorem stands_next {f g : Int → List Int × Int} {r t : Rec} {k n : Nat} (h : StandsF f r k) (ht : t.Ok) (hm : t.may = true) (hq : t.seq = ((k + 1 : Nat) : Int)) (hn : 99 ≤ n)
    (hg : g (((k + 1) % 2 : Nat) : Int) = (chunkP n t.putL 0, 0)) (ho : g ((k % 2 : Nat) : Int) = f ((k % 2 : Nat) : Int)) : StandsF g t (k + 1) := by
  obtain ⟨e1, _, e3, _⟩ := got_put t ht hm
  have hr := rowF_put e3 hg hn
  refine ⟨hq, ht, fun hz => absurd hz (by omega), fun _ => ⟨⟨by rw [hr]; exact e1, ?_⟩, ?_⟩, ?_⟩
  · rw [hr, gotV_put t ht hm, hq]
    omega
  · rw [hr, gotV_put t ht hm]
  · have e : ((k + 1 + 1) % 2 : Nat) = k % 2 := by omega
    rw [e]
    intro c
    have c' := (goodF_same ho).1 c
    rw [rowF_same ho]
    rcases Nat.eq_zero_or_pos k with h0 | h0
    · obtain ⟨_, g0, _⟩ := h.zero h0
      subst h0
      exact absurd c' g0
    · rw [(h.pos h0).2, h.seq]
      omega
/-- The next one's sector is torn. -/
theorem stands_torn {f g : Int → List Int × Int} {r : Rec} {k : Nat} (h : StandsF f r k) (hg : (g (((k + 1) % 2 : Nat) : Int)).2 ≠ 0) (ho : g ((k % 2 : Nat) : Int) = f ((k % 2 : Nat) : Int)) : StandsF g r k := by
  refine ⟨h.seq, h.ok, fun hz => ?_, fun hp => ?_, fun c => absurd c (good_no hg)⟩
  · subst hz
    obtain ⟨e, g0, _⟩ := h.zero rfl
    exact ⟨e, fun c => g0 ((goodF_same ho).1 c), good_no hg⟩
  · obtain ⟨a, b⟩ := h.pos hp
    exact ⟨(goodF_same ho).2 a, by rw [rowF_same ho]; exact b⟩

/-! ### the document's reading: of whole sectors -/
theorem cut99 (xs : List Int) (a m : Nat) (h : a + m ≤ 99) : ((xs.take 99).drop a).take m = (xs.drop a).take m := by
  rw [List.drop_take, List.take_take, Nat.min_eq_left (by omega)]
theorem num99 (xs : List Int) (a m : Nat) (h : a + m ≤ 99) : numA (xs.take 99) a m = numA xs a m := by
  unfold numA
  rw [cut99 xs a m h]
theorem get99 (xs : List Int) (a : Nat) (h : a < 99) : (xs.take 99).getD a 0 = xs.getD a 0 := by
  rw [List.getD, List.getD, List.getElem?_take, if_pos h]
theorem rec99 (xs : List Int) : recOf (xs.take 99) = recOf xs := by
  unfold recOf
  rw [num99 xs 4 8 (by omega), get99 xs 12 (by omega), num99 xs 13 8 (by omega), num99 xs 21 4 (by omega), get99 xs 25 (by omega), get99 xs 26 (by omega), cut99 xs 27 32 (by omega), num99 xs 59 8 (by omega), num99 xs 67 4 (by omega), num99 xs 71 4 (by omega), num99 xs 75 8 (by omega), num99 xs 83 4 (by omega), num99 xs 87 4 (by omega)]
theorem getE99 (xs : List Int) (h : 99 ≤ xs.length) : getE (xs.take 99) = getE xs := by
  unfold getE
  rw [rec99, cut99 xs 91 8 (by omega), List.take_take, List.take_take, List.length_take]
  have e : (min 99 xs.length < 99) = (xs.length < 99) := by
    rw [Nat.min_eq_left h]
    simp
    omega
  simp only [e]
  rfl
theorem getV99 (xs : List Int) (h : 99 ≤ xs.length) : getV (xs.take 99) = getV xs := by
  unfold getV
  rw [getE99 xs h, rec99]
/-- The document's step. -/
def stepR (f : Int → List Int × Int) (p : Rec × Bool) (i : Int) : Rec × Bool :=
  if (f i).2 = 0 ∧ getE (f i).1 = 0 ∧ (getV (f i).1).seq % 2 = i ∧ (p.2 = false ∨ p.1.seq ≤ (getV (f i).1).seq) then (getV (f i).1, true) else p
theorem stepR_is {f : Int → List Int × Int} {i : Int} (hf : (f i).2 = 0 → 99 ≤ (f i).1.length) (p : Rec × Bool) (hp : p.2 = true → (p.1.seq - i) % 2 ≠ 0) : stepR f p i = stepF f p i := by
  unfold stepR stepF
  by_cases h0 : (f i).2 = 0
  · have hl := hf h0
    have hr : rowF f i = (f i).1.take 99 := by unfold rowF; rw [if_pos h0]
    have hg : GoodF f i ↔ (getE (f i).1 = 0 ∧ (getV (f i).1).seq % 2 = i) := by
      unfold GoodF
      rw [hr, getE99 _ hl, getV99 _ hl]
    have hv : getV (rowF f i) = getV (f i).1 := by rw [hr, getV99 _ hl]
    rw [hv]
    have hiff : ((f i).2 = 0 ∧ getE (f i).1 = 0 ∧ (getV (f i).1).seq % 2 = i ∧ (p.2 = false ∨ p.1.seq ≤ (getV (f i).1).seq)) ↔ (GoodF f i ∧ (p.2 = false ∨ p.1.seq < (getV (f i).1).seq)) := by
      rw [hg]
      constructor
      · rintro ⟨_, a, b, c⟩
        refine ⟨⟨a, b⟩, ?_⟩
        cases hp2 : p.2 with
        | false => exact Or.inl rfl
        | true =>
          rcases c with c | c
          · rw [hp2] at c; cases c
          · have := hp hp2
            exact Or.inr (by omega)
      · rintro ⟨⟨a, b⟩, c⟩
        refine ⟨h0, a, b, ?_⟩
        rcases c with c | c
        · exact Or.inl c
        · exact Or.inr (by omega)
    by_cases c : GoodF f i ∧ (p.2 = false ∨ p.1.seq < (getV (f i).1).seq)
    · rw [if_pos c, if_pos (hiff.2 c)]
    · rw [if_neg c, if_neg (fun x => c (hiff.1 x))]
  · rw [if_neg (fun c => h0 c.1), if_neg (fun c => good_no h0 c.1)]
theorem step0_seq (f : Int → List Int × Int) : (stepF f (rec0, false) 0).2 = true → (stepF f (rec0, false) 0).1.seq % 2 = 0 := by
  unfold stepF
  split
  · rename_i h
    intro _
    exact h.1.2
  · intro h
    cases h
/-- The document's last record is the program's. -/
theorem lastR_is {f : Int → List Int × Int} (h0 : (f 0).2 = 0 → 99 ≤ (f 0).1.length) (h1 : (f 1).2 = 0 → 99 ≤ (f 1).1.length) : (stepR f (stepR f (rec0, false) 0) 1).1 = lastF f := by
  rw [stepR_is h0 (rec0, false) (fun h => by cases h), stepR_is h1 _ (fun h => by have := step0_seq f h; omega)]
  rfl

/-! ### what a part reads and writes -/
theorem pread_rowF {s : Dv} (hs : 128 ≤ s.size) (hw : Whole s) {i : Int} {T : Nat} (hT : 99 ≤ T) {r : List Int × Int} (h : PRead s i T 0 99 r) : r.1 = rowF s.read i := by
  unfold PRead at h
  rw [if_pos (by omega)] at h
  have hsec : ∀ j, j < 99 → secP s i (0 + j) = s.read i := by
    intro j hj
    unfold secP
    rw [Nat.zero_add, Nat.div_eq_of_lt (by omega)]
    simp
  have e99 : (99 : Int).toNat = 99 := rfl
  have e0 : (0 : Int).toNat = 0 := rfl
  rw [e99, e0] at h
  unfold rowF
  rcases h with ⟨k, hk, h1, h2, rfl⟩ | ⟨h1, rfl⟩
  · rw [hsec k hk] at h2
    rw [if_neg h2]
  · have h0 : (s.read i).2 = 0 := by
      have := h1 0 (by omega)
      rwa [hsec 0 (by omega)] at this
    rw [if_pos h0]
    have hq : s.read i = ((s.read i).1, 0) := Prod.ext rfl h0
    have hl := (hw i _ hq).1
    have hp := piece (s := s) (F := i) (p := 0) (m := 99) hl (by rw [show secP s i 0 = s.read i from hsec 0 (by omega)]; exact hq) (by rw [Nat.zero_mod]; omega)
    rw [Nat.zero_mod, List.drop_zero] at hp
    exact hp.symm
theorem pwrite_sec {s : Dv} (hs : 128 ≤ s.size) {i : Int} {T : Nat} (hT : 99 ≤ T) {bs : List Int} (hb : bs.length = 99) {r : Int × Dv} (h : PWrite s i T 0 bs r) : r = s.write i (chunkP s.size bs 0) := by
  unfold PWrite at h
  rw [if_neg (by simp), if_pos (by rw [hb]; omega)] at h
  have e0 : (0 : Int).toNat / s.size = 0 := by
    show 0 / s.size = 0
    exact Nat.zero_div _
  rw [e0] at h
  have hm : manyP s.size bs = 1 := by
    unfold manyP
    rw [hb]
    exact (Nat.div_eq_of_lt_le (by omega) (by omega))
  rw [show i + ((0 : Nat) : Int) = i by omega] at h
  rcases h with ⟨k, hk, _, _, rfl⟩ | ⟨hok, rfl⟩
  · rw [hm] at hk
    obtain rfl : k = 0 := by omega
    unfold errS wrS wrS
    rw [show i + ((0 : Nat) : Int) = i by omega]
  · rw [hm] at hok ⊢
    have := hok 0 (by omega)
    unfold errS wrS at this
    unfold wrS wrS
    rw [show i + ((0 : Nat) : Int) = i by omega] at this ⊢
    exact Prod.ext this.symm rfl

/-! ### a record is written -/
def writeJ (s : Dv) (i : Int) (xs : List Int) : Int × Dv :=
  if s.sync.1 ≠ 0 then s.sync else if (s.sync.2.write i xs).1 ≠ 0 then s.sync.2.write i xs else (s.sync.2.write i xs).2.sync
/-- How a device reads whose sectors kept are these, and that is on, and on which nothing waits. -/
def readK (n c : Nat) (K : Sl) (i : Int) : List Int × Int := if i < 0 ∨ (c : Int) ≤ i then ([], 5) else
  match getS K i with
  | none => (List.replicate n 0, 0)
  | some none => ([], 7)
  | some (some xs) => (xs, 0)
theorem read_still {s : Dv} (h1 : s.off = false) (h2 : s.waits = []) (i : Int) : s.read i = readK s.size s.count s.kept i := by
  unfold Dv.read readK
  rw [h1, h2, if_neg (by decide)]
  rfl
/-- A device on which nothing waits. -/
structure Still (s : Dv) : Prop where
  ok : s.Ok
  off : s.off = false
  waits : s.waits = []
theorem down_same (s : Dv) : s.down.size = s.size ∧ s.down.count = s.count ∧ s.down.kept = s.kept ∧ s.down.waits = s.waits := by
  unfold Dv.down
  split <;> exact ⟨rfl, rfl, rfl, rfl⟩
theorem tick_same (s : Dv) : s.tick.size = s.size ∧ s.tick.count = s.count ∧ s.tick.kept = s.kept ∧ s.tick.waits = s.waits := by
  unfold Dv.tick
  split
  · exact ⟨rfl, rfl, rfl, rfl⟩
  · split
    · exact down_same s
    · exact ⟨rfl, rfl, rfl, rfl⟩
theorem tick_off {s : Dv} (h : s.fuse ≠ 0) : s.tick.off = s.off := by
  unfold Dv.tick
  split
  · rfl
  · first | rfl | rw [if_neg h]
/-- What lies kept, and waits, once a record's writing has gone as far as it goes: nothing of it, or it waits, or it is kept. -/
theorem writeJ_ends {s : Dv} (h : Still s) {i : Int} {xs : List Int} (h0 : 0 ≤ i) (h1 : i < s.count) (hx : xs.length = s.size) :
    ((writeJ s i xs).2.size = s.size ∧ (writeJ s i xs).2.count = s.count) ∧
    (((writeJ s i xs).1 = 8 ∧ (writeJ s i xs).2.kept = s.kept ∧ ((writeJ s i xs).2.waits = [] ∨ (writeJ s i xs).2.waits = [(i, some xs)])) ∨
      ((writeJ s i xs).1 = 0 ∧ (writeJ s i xs).2.kept = putS s.kept i (some xs) ∧ (writeJ s i xs).2.waits = [] ∧ (writeJ s i xs).2.off = false)) := by
  obtain ⟨t1, t2, t3, t4⟩ := tick_same s
  by_cases f0 : s.fuse = 0
  · have e : s.sync = (8, s.tick) := by unfold Dv.sync; rw [if_neg (by rw [h.off]; decide), if_pos f0]
    have ew : writeJ s i xs = (8, s.tick) := by unfold writeJ; rw [e, if_pos (show (8 : Int) ≠ 0 by decide)]
    rw [ew]
    exact ⟨⟨t1, t2⟩, Or.inl ⟨rfl, t3, Or.inl (t4.trans h.waits)⟩⟩
  have e : s.sync = (0, s.tick.flush) := by unfold Dv.sync; rw [if_neg (by rw [h.off]; decide), if_neg f0]
  obtain ⟨p, hp⟩ : ∃ p, p = s.tick.flush := ⟨_, rfl⟩
  have p1 : p.size = s.size := by rw [hp]; exact t1
  have p2 : p.count = s.count := by rw [hp]; exact t2
  have p3 : p.kept = s.kept := by rw [hp]; show merge s.tick.kept s.tick.waits = _; rw [t3, t4, h.waits]; rfl
  have p4 : p.waits = [] := by rw [hp]; rfl
  have p5 : p.off = false := by rw [hp]; show s.tick.off = false; rw [tick_off f0]; exact h.off
  rw [← hp] at e
  obtain ⟨u1, u2, u3, u4⟩ := tick_same (p.writes i xs)
  have v4 : (p.writes i xs).waits = [(i, some xs)] := by show putS p.waits i (some xs) = _; rw [p4]; rfl
  by_cases g0 : p.fuse = 0
  · have e2 : p.write i xs = (8, (p.writes i xs).tick) := by
      unfold Dv.write
      rw [if_neg (by rw [p5]; decide), if_neg (by omega), if_neg (fun c => c (by omega)), if_pos g0]
    have ew : writeJ s i xs = (8, (p.writes i xs).tick) := by unfold writeJ; rw [e, if_neg (show ¬ (0 : Int) ≠ 0 by decide)]; rw [e2, if_pos (show (8 : Int) ≠ 0 by decide)]
    rw [ew]
    refine ⟨⟨u1.trans p1, u2.trans p2⟩, Or.inl ⟨rfl, u3.trans p3, Or.inr (u4.trans v4)⟩⟩
  have e2 : p.write i xs = (0, { (p.writes i xs).tick with wr := p.wr + 1 }) := by
    unfold Dv.write
    rw [if_neg (by rw [p5]; decide), if_neg (by omega), if_neg (fun c => c (by omega)), if_neg g0]
  obtain ⟨q, hq⟩ : ∃ q, q = ({ (p.writes i xs).tick with wr := p.wr + 1 } : Dv) := ⟨_, rfl⟩
  have q1 : q.size = s.size := by rw [hq]; exact u1.trans p1
  have q2 : q.count = s.count := by rw [hq]; exact u2.trans p2
  have q3 : q.kept = s.kept := by rw [hq]; exact u3.trans p3
  have q4 : q.waits = [(i, some xs)] := by rw [hq]; exact u4.trans v4
  have q5 : q.off = false := by rw [hq]; show (p.writes i xs).tick.off = false; rw [tick_off (s := p.writes i xs) g0]; exact p5
  rw [← hq] at e2
  have ew : writeJ s i xs = q.sync := by unfold writeJ; rw [e, if_neg (show ¬ (0 : Int) ≠ 0 by decide)]; rw [e2, if_neg (show ¬ (0 : Int) ≠ 0 by decide)]
  rw [ew]
  obtain ⟨x1, x2, x3, x4⟩ := tick_same q
  by_cases k0 : q.fuse = 0
  · have e3 : q.sync = (8, q.tick) := by unfold Dv.sync; rw [if_neg (by rw [q5]; decide), if_pos k0]
    rw [e3]
    exact ⟨⟨x1.trans q1, x2.trans q2⟩, Or.inl ⟨rfl, x3.trans q3, Or.inr (x4.trans q4)⟩⟩
  · have e3 : q.sync = (0, q.tick.flush) := by unfold Dv.sync; rw [if_neg (by rw [q5]; decide), if_neg k0]
    rw [e3]
    refine ⟨⟨x1.trans q1, x2.trans q2⟩, Or.inr ⟨rfl, ?_, rfl, ?_⟩⟩
    · show merge q.tick.kept q.tick.waits = _
      rw [x3, x4, q3, q4]
      rfl
    · show q.tick.off = false
      rw [tick_off k0]
      exact q5
theorem writeJ_on {s : Dv} (h : On s) (hw : s.waits = []) {i : Int} {xs : List Int} (h0 : 0 ≤ i) (h1 : i < s.count) (hx : xs.length = s.size) :
    (writeJ s i xs).1 = 0 ∧ On (writeJ s i xs).2 ∧ (writeJ s i xs).2.waits = [] ∧ (writeJ s i xs).2.kept = putS s.kept i (some xs) ∧ (writeJ s i xs).2.size = s.size ∧ (writeJ s i xs).2.count = s.count ∧ (writeJ s i xs).2.offs = s.offs ∧ (writeJ s i xs).2.wr = s.wr + 1 := by
  have ht : ∀ t : Dv, t.fuse = -1 → t.tick = t := fun t h => by unfold Dv.tick; rw [if_pos h]
  have e : s.sync = (0, s.flush) := by unfold Dv.sync; rw [if_neg (by rw [h.off]; decide), if_neg (by rw [h.fuse]; decide), ht s h.fuse]
  have ef : s.flush = s := by
    unfold Dv.flush
    rw [hw]
    show ({ s with kept := s.kept, waits := [] } : Dv) = s
    rw [← hw]
  have ok1 : (s.writes i xs).Ok := h.ok.writes h0 h1
  have e2 : s.write i xs = (0, { s.writes i xs with wr := s.wr + 1 }) := by
    unfold Dv.write
    rw [if_neg (by rw [h.off]; decide), if_neg (by omega), if_neg (fun c => c hx), if_neg (by rw [h.fuse]; decide), ht (s.writes i xs) h.fuse]
  obtain ⟨q, hq⟩ : ∃ q, q = ({ s.writes i xs with wr := s.wr + 1 } : Dv) := ⟨_, rfl⟩
  have okq : q.Ok := by
    rw [hq]
    exact ⟨ok1.s1, ok1.s2, ok1.c1, ok1.c2, ok1.ku, ok1.wu, ok1.kr, ok1.wr_, ok1.wn, ok1.f1, ok1.f2, ok1.o1, by have := h.ok.w1; show 0 ≤ s.wr + 1; omega⟩
  have e3 : q.sync = (0, q.flush) := by unfold Dv.sync; rw [if_neg (by rw [hq]; show ¬ (s.off = true); rw [h.off]; decide), if_neg (by rw [hq]; show ¬ (s.fuse = 0); rw [h.fuse]; decide), ht q (by rw [hq]; exact h.fuse)]
  have ew : writeJ s i xs = (0, q.flush) := by unfold writeJ; rw [e, if_neg (show ¬ (0 : Int) ≠ 0 by decide)]; rw [ef, e2, ← hq, if_neg (show ¬ (0 : Int) ≠ 0 by decide)]; exact e3
  rw [ew]
  refine ⟨rfl, ⟨okq.flush, by show q.off = false; rw [hq]; exact h.off, by show q.fuse = -1; rw [hq]; exact h.fuse⟩, rfl, ?_, by rw [hq]; rfl, by rw [hq]; rfl, by rw [hq]; rfl, by rw [hq]; rfl⟩
  show merge q.kept q.waits = _
  rw [hq]
  show merge s.kept (putS s.waits i (some xs)) = _
  rw [hw]
  rfl

/-! ### behind a fall -/
theorem back_still {s : Dv} (picks : List Int) : (s.back picks).off = false ∧ (s.back picks).waits = [] ∧ (s.back picks).size = s.size ∧ (s.back picks).count = s.count ∧ (s.back picks).kept = backK s picks s.waits.length := by
  obtain ⟨d1, d2, _, _⟩ := down_same s
  exact ⟨rfl, rfl, d1, d2, rfl⟩
theorem readK_put {n c : Nat} {K : Sl} (hu : Up K) {i j : Int} {o : Option (List Int)} : readK n c (putS K i o) j = if j = i ∧ ¬ (j < 0 ∨ (c : Int) ≤ j) then (match o with | none => ([], 7) | some xs => (xs, 0)) else readK n c K j := by
  unfold readK
  rw [getS_putS hu]
  by_cases hr : j < 0 ∨ (c : Int) ≤ j
  · rw [if_pos hr, if_pos hr, if_neg (fun c => c.2 hr)]
  · rw [if_neg hr, if_neg hr]
    by_cases hj : j = i
    · rw [if_pos hj, if_pos ⟨hj, hr⟩]
      cases o <;> rfl
    · rw [if_neg hj, if_neg (fun c => hj c.1)]

/-- A record is written, no fuse. -/
theorem keeps_next {s : Dv} (h : On s) (hw : s.waits = []) {r t : Rec} {k : Nat} (hs : StandsF s.read r k) (hc : 2 ≤ s.count) (ht : t.Ok) (hm : t.may = true) (hq : t.seq = ((k + 1 : Nat) : Int)) :
    StandsF (writeJ s (((k + 1) % 2 : Nat) : Int) (chunkP s.size t.putL 0)).2.read t (k + 1) := by
  have hk2 : (k + 1) % 2 < 2 := Nat.mod_lt _ (by omega)
  have hk3 : k % 2 < 2 := Nat.mod_lt _ (by omega)
  obtain ⟨_, a2, a3, a4, a5, a6, _⟩ := writeJ_on h hw (i := (((k + 1) % 2 : Nat) : Int)) (xs := chunkP s.size t.putL 0) (by omega) (by omega) (chunkP_length _ _ _)
  have hn := h.ok.s1
  refine stands_next hs ht hm hq (n := s.size) (by omega) ?_ ?_
  · rw [read_still a2.off a3, a4, a5, a6, readK_put h.ok.ku, if_pos ⟨rfl, by omega⟩]
  · rw [read_still a2.off a3, a4, a5, a6, readK_put h.ok.ku, if_neg (by rintro ⟨e, _⟩; omega), read_still h.off hw]
/-- Whatever falls, the last record is the new one, or the one ahead of it. -/
theorem falls_last {s : Dv} (h : Still s) {r t : Rec} {k : Nat} (hs : StandsF s.read r k) (hc : 2 ≤ s.count) (ht : t.Ok) (hm : t.may = true) (hq : t.seq = ((k + 1 : Nat) : Int)) (picks : List Int) :
    (lastF ((writeJ s (((k + 1) % 2 : Nat) : Int) (chunkP s.size t.putL 0)).2.back picks).read = r ∨ lastF ((writeJ s (((k + 1) % 2 : Nat) : Int) (chunkP s.size t.putL 0)).2.back picks).read = t) ∧
      ((writeJ s (((k + 1) % 2 : Nat) : Int) (chunkP s.size t.putL 0)).1 = 0 → lastF ((writeJ s (((k + 1) % 2 : Nat) : Int) (chunkP s.size t.putL 0)).2.back picks).read = t) := by
  have hk2 : (k + 1) % 2 < 2 := Nat.mod_lt _ (by omega)
  have hk3 : k % 2 < 2 := Nat.mod_lt _ (by omega)
  have hn := h.ok.s1
  obtain ⟨⟨z1, z2⟩, hcase⟩ := writeJ_ends h (i := (((k + 1) % 2 : Nat) : Int)) (xs := chunkP s.size t.putL 0) (by omega) (by omega) (chunkP_length _ _ _)
  generalize writeJ s (((k + 1) % 2 : Nat) : Int) (chunkP s.size t.putL 0) = q at *
  obtain ⟨b1, b2, b3, b4, b5⟩ := back_still (s := q.2) picks
  have hread : ∀ j, (q.2.back picks).read j = readK s.size s.count (backK q.2 picks q.2.waits.length) j := fun j => by rw [read_still b1 b2, b3, b4, b5, z1, z2]
  have hold : ∀ j, s.read j = readK s.size s.count s.kept j := fun j => read_still h.off h.waits j
  have new_ : backK q.2 picks q.2.waits.length = putS s.kept (((k + 1) % 2 : Nat) : Int) (some (chunkP s.size t.putL 0)) → lastF (q.2.back picks).read = t := by
    intro e
    refine lastF_of (k := k + 1) (stands_next hs ht hm hq (n := s.size) (by omega) ?_ ?_)
    · rw [hread, e, readK_put h.ok.ku, if_pos ⟨rfl, by omega⟩]
    · rw [hread, e, readK_put h.ok.ku, if_neg (by rintro ⟨e, _⟩; omega), hold]
  have old_ : backK q.2 picks q.2.waits.length = s.kept → lastF (q.2.back picks).read = r := by
    intro e
    refine lastF_of (k := k) (stands_same hs ?_ ?_)
    · rw [hread, e, hold]
    · rw [hread, e, hold]
  have torn_ : backK q.2 picks q.2.waits.length = putS s.kept (((k + 1) % 2 : Nat) : Int) none → lastF (q.2.back picks).read = r := by
    intro e
    refine lastF_of (k := k) (stands_torn hs ?_ ?_)
    · rw [hread, e, readK_put h.ok.ku, if_pos ⟨rfl, by omega⟩]
      decide
    · rw [hread, e, readK_put h.ok.ku, if_neg (by rintro ⟨e, _⟩; omega), hold]
  rcases hcase with ⟨c1, c2, c3 | c3⟩ | ⟨c1, c2, c3, _⟩
  · refine ⟨Or.inl (old_ ?_), fun c => absurd (c1.symm.trans c) (by decide)⟩
    rw [c3]
    show backK q.2 picks 0 = _
    exact c2
  · have e : backK q.2 picks q.2.waits.length = backStep picks s.kept 0 ((((k + 1) % 2 : Nat) : Int), some (chunkP s.size t.putL 0)) := by
      rw [c3]
      show backK q.2 picks (0 + 1) = _
      rw [backK_next, c3]
      show backStep picks q.2.kept 0 _ = _
      rw [c2]
      rfl
    refine ⟨?_, fun c => absurd (c1.symm.trans c) (by decide)⟩
    unfold backStep at e
    split at e
    · exact Or.inr (new_ e)
    · split at e
      · exact Or.inl (torn_ e)
      · exact Or.inl (old_ e)
  · have e : backK q.2 picks q.2.waits.length = putS s.kept (((k + 1) % 2 : Nat) : Int) (some (chunkP s.size t.putL 0)) := by
      rw [c3]
      exact c2
    exact ⟨Or.inr (new_ e), fun _ => new_ e⟩
/-- Nothing was written: the last one stays. -/
theorem falls_none {s : Dv} (h : Still s) {r : Rec} {k : Nat} (hs : StandsF s.read r k) (picks : List Int) : lastF (s.back picks).read = r := by
  obtain ⟨b1, b2, b3, b4, b5⟩ := back_still (s := s) picks
  have e : backK s picks s.waits.length = s.kept := by rw [h.waits]; rfl
  have hh : ∀ j, (s.back picks).read j = s.read j := fun j => by rw [read_still b1 b2, b3, b4, b5, e, read_still h.off h.waits]
  refine lastF_of (k := k) (stands_same hs (hh 0).symm (hh 1).symm)
/-- A new device's journal. -/
theorem stands_new {n c : Nat} (hn : 128 ≤ n) (hc : 2 ≤ c) : StandsF (Dv.new n c).read rec0 0 := by
  have hr : ∀ j : Int, 0 ≤ j → j < 2 → (Dv.new n c).read j = (List.replicate n 0, 0) := by
    intro j h0 h1
    rw [read_still rfl rfl]
    unfold readK
    have e1 : (Dv.new n c).count = c := rfl
    rw [if_neg (by rw [e1]; omega)]
    rfl
  have hbad : ∀ j : Int, 0 ≤ j → j < 2 → ¬ GoodF (Dv.new n c).read j := by
    rintro j h0 h1 ⟨e, _⟩
    unfold rowF at e
    rw [hr j h0 h1, if_pos rfl] at e
    simp only [List.take_replicate, Nat.min_eq_left (show 99 ≤ n by omega)] at e
    unfold getE at e
    rw [if_neg (by rw [List.length_replicate]; omega), if_pos (by rw [List.take_replicate]; decide)] at e
    exact absurd e (by decide)
  exact ⟨rfl, rec0_ok, fun _ => ⟨rfl, hbad 0 (by omega) (by omega), hbad 1 (by omega) (by omega)⟩, fun h => absurd h (by omega), fun h => absurd h (hbad 1 (by omega) (by omega))⟩
end Go.Proofs.YtpnodocjpedcmaaDoor.Jr

namespace Go.Proofs.YtpnodocjpedcmaaDoor.Jr
open Go.ChangeShapes Go.WideShapes Go.ChangeAt Go.RowKit Go.Proofs.YtpnodocjpedcmaaDoor.Kit Go.Proofs.YtpnodocjpedcmaaDoor.Sec
open Go.Proofs.YtpnodocjpedcmaaDoor.Sha (LaidS sumL sumL_length sumL_octets)
open Go.Proofs.YtpnodocjpedcmaaDoor.Pt (PartAt Lies)

/-- A row of cells is stored within a block. -/
theorem wpList_store_at {P : Program} {w : World} {ops : Array Oper} {rest : List Oper} {o : Oper} {a : Act} {Q : Exit → Act → World → Prop} (hgd : o.guard = none) (ty : TypeId) (x y : Operand) (ho : o.op = .store ty x y)
    {g q : Nat} {t : TypeId} {cs : Array Value} {ds : List Value} (h : Block w g t cs) (hx : a.eval x = .pointer (some ⟨g, q, none⟩)) (hy : a.eval y = .agg ds.toArray) (hl : q + ds.length ≤ cs.size) (hi : (P.info? ty).map (·.size) = some ds.length) (hone : ∀ u ∈ ds, u.oneCell' = true)
    (hK : ∀ w', Block w' g t (cs.toList.take q ++ (ds ++ cs.toList.drop (q + ds.length))).toArray → w.grownBy w' (some g) → wpList P ops Q rest (a.put o.dst undef) w') : wpList P ops Q (o :: rest) a w := by
  refine wpList_store_mid hgd ty x y ho g q ds.toArray hx hy ?_ (by simpa using hi) (all_oneCell_toArray hone) ?_
  · intro j hj
    have hj' : q + j < cs.size := by
      have : j < ds.length := by simpa using hj
      omega
    exact ⟨by rw [h.cell, Array.getElem?_eq_getElem hj']; rfl, h.frozen (q + j)⟩
  · refine hK _ ?_ (setCells_grown g _ q w)
    simpa using setCells_block ds q w _ h hl

/-- A journal's cells. -/
def jL (a : Nat) (v1 v2 : Value) (R : List Value) : List Value := .pointer (some ⟨a, 0, none⟩) :: v1 :: v2 :: R
def JBlk (w : World) (j a : Nat) (v1 v2 : Value) (R : List Value) : Prop := Block w j 107 (jL a v1 v2 R).toArray
theorem jL_length (a : Nat) (v1 v2 : Value) (R : List Value) : (jL a v1 v2 R).length = R.length + 3 := rfl
section
variable {w w' : World} {j a : Nat} {v1 v2 : Value} {R : List Value}
theorem JBlk.lt (h : JBlk w j a v1 v2 R) : j < w.heap.size := Block.lt h
theorem JBlk.c0 (h : JBlk w j a v1 v2 R) : w.cell? ⟨j, 0, none⟩ = some (.pointer (some ⟨a, 0, none⟩)) := Block.cell h 0
theorem JBlk.c1 (h : JBlk w j a v1 v2 R) : w.cell? ⟨j, 1, none⟩ = some v1 := Block.cell h 1
theorem JBlk.c2 (h : JBlk w j a v1 v2 R) : w.cell? ⟨j, 2, none⟩ = some v2 := Block.cell h 2
theorem JBlk.free (h : JBlk w j a v1 v2 R) (i : Nat) : w.frozen? ⟨j, i, none⟩ = false := Block.frozen h i
theorem JBlk.c3 (h : JBlk w j a v1 v2 R) (i : Nat) : w.cell? ⟨j, 3 + i, none⟩ = R[i]? := by
  have := Block.cell h (3 + i)
  rw [this]
  simp [jL, show 3 + i = i + 1 + 1 + 1 by omega]
theorem JBlk.range (h : JBlk w j a v1 v2 R) : w.rangeAt j 3 R := by
  intro i u hu
  rw [h.c3 i]
  exact hu
theorem JBlk.alloc (h : JBlk w j a v1 v2 R) (o : Obj) : JBlk (w.alloc o) j a v1 v2 R := Block.alloc h o
theorem JBlk.drewN (h : JBlk w j a v1 v2 R) (n : Nat) : JBlk (w.drewN n) j a v1 v2 R := Block.drewN h n
theorem JBlk.below (h : JBlk w j a v1 v2 R) (hb : Below w.heap.size w w') : JBlk w' j a v1 v2 R := Block.below h hb (Block.lt h)
theorem JBlk.put1 (h : JBlk w j a v1 v2 R) (u : Value) : JBlk (w.setCell ⟨j, 1, none⟩ u) j a u v2 R := by
  have := Block.set_ h 1 u
  simpa [JBlk, jL] using this
theorem JBlk.put2 (h : JBlk w j a v1 v2 R) (u : Value) : JBlk (w.setCell ⟨j, 2, none⟩ u) j a v1 u R := by
  have := Block.set_ h 2 u
  simpa [JBlk, jL] using this
end
/-- The record of a journal is stored. -/
theorem wpList_store_last {P : Program} {w : World} {ops : Array Oper} {rest : List Oper} {o : Oper} {a : Act} {Q : Exit → Act → World → Prop} (hgd : o.guard = none) (ty : TypeId) (x y : Operand) (ho : o.op = .store ty x y)
    {g b : Nat} {v1 v2 : Value} {R ds : List Value} (h : JBlk w g b v1 v2 R) (hR : R.length = 44) (hd : ds.length = 44) (hx : a.eval x = .pointer (some ⟨g, 3, none⟩)) (hy : a.eval y = .agg ds.toArray) (hi : (P.info? ty).map (·.size) = some 44) (hone : ∀ u ∈ ds, u.oneCell' = true)
    (hK : ∀ w', JBlk w' g b v1 v2 ds → w.grownBy w' (some g) → wpList P ops Q rest (a.put o.dst undef) w') : wpList P ops Q (o :: rest) a w := by
  refine wpList_store_at hgd ty x y ho h hx hy (by rw [hd]; simp [jL, hR]) (by rw [hd]; exact hi) hone fun w' h1 h2 => hK w' ?_ h2
  have e : ((jL b v1 v2 R).toArray.toList.take 3 ++ (ds ++ (jL b v1 v2 R).toArray.toList.drop (3 + ds.length))) = jL b v1 v2 ds := by
    rw [hd, List.drop_of_length_le (by simp [jL, hR])]
    simp [jL]
  rw [e] at h1
  exact h1

/-- A journal lies at j: on the device at a, its parts at p0 and p1, its last record r. -/
structure JAt (w : World) (j a p0 p1 : Nat) (r : Rec) : Prop where
  j : JBlk w j a (.pointer (some ⟨p0, 0, none⟩)) (.pointer (some ⟨p1, 0, none⟩)) r.cells
  p0 : PartAt w p0 a 0 1
  p1 : PartAt w p1 a 1 1
section
variable {w w' : World} {j a p0 p1 : Nat} {r : Rec}
theorem JAt.below (h : JAt w j a p0 p1 r) (hb : Below w.heap.size w w') : JAt w' j a p0 p1 r := ⟨h.j.below hb, Block.below h.p0 hb (Block.lt h.p0), Block.below h.p1 hb (Block.lt h.p1)⟩
theorem JAt.alloc (h : JAt w j a p0 p1 r) (o : Obj) : JAt (w.alloc o) j a p0 p1 r := ⟨h.j.alloc o, Block.alloc h.p0 o, Block.alloc h.p1 o⟩
theorem JAt.ne0 (h : JAt w j a p0 p1 r) : p0 ≠ j := fun e => by
  have h1 := h.p0
  have h2 := h.j
  unfold PartAt at h1
  unfold JBlk at h2
  rw [e] at h1
  unfold Block at h1 h2
  rw [h1] at h2
  injection h2 with h2
  injection h2 with _ e2 _
  exact absurd e2 (by decide)
theorem JAt.ne1 (h : JAt w j a p0 p1 r) : p1 ≠ j := fun e => by
  have h1 := h.p1
  have h2 := h.j
  unfold PartAt at h1
  unfold JBlk at h2
  rw [e] at h1
  unfold Block at h1 h2
  rw [h1] at h2
  injection h2 with h2
  injection h2 with _ e2 _
  exact absurd e2 (by decide)
theorem JAt.stored (h : JAt w j a p0 p1 r) {t : Rec} (h1 : JBlk w' j a (.pointer (some ⟨p0, 0, none⟩)) (.pointer (some ⟨p1, 0, none⟩)) t.cells) (g : w.grownBy w' (some j)) : JAt w' j a p0 p1 t :=
  ⟨h1, Block.grown h.p0 g (by intro e; injection e with e; exact h.ne0 e.symm), Block.grown h.p1 g (by intro e; injection e with e; exact h.ne1 e.symm)⟩
/-- It stays while the device turns. -/
theorem JAt.turn {I : Nat → Prop} {mk mw : Nat} {s : Dv} (h : JAt w j a p0 p1 r) (hd : DvAt w I a mk mw s) (t : TurnsIn (DSet a mk mw) w w') : JAt w' j a p0 p1 r :=
  ⟨Block.out h.j t (hd.not_cells h.j (by decide)), Block.out h.p0 t (hd.not_cells h.p0 (by decide)), Block.out h.p1 t (hd.not_cells h.p1 (by decide))⟩
end

set_option maxRecDepth 100000 in
set_option maxHeartbeats 3200000 in
/-- The last record. -/
theorem last_any (j a p0 p1 : Nat) (r : Rec) (w : World) (h : JAt w j a p0 p1 r) (hm : r.man.length = 32) : Calls Tryd.prog 18 #[.pointer (some ⟨j, 0, none⟩)] w fun e w' => e = .returned (.agg r.cells.toArray) ∧ Below w.heap.size w w' := by
  have HL := Lib.hid (r.cells_length hm)
  have HO := Lib.hid r.cells_one
  have r0 : Block (w.alloc (.cells rec0.cells.toArray 50)) w.heap.size 50 rec0.cells.toArray := Block.new w _ _
  have hb0 := below_last w (.cells rec0.cells.toArray 50)
  have HZ := Lib.hid (show rec0.cells.toArray.size = 44 from rec0.cells_length rfl)
  have R1 : (w.alloc (.cells rec0.cells.toArray 50)).rangeAt j 3 r.cells := (h.j.alloc _).range
  obtain ⟨L, hL⟩ : ∃ L, r.cells = L := ⟨_, rfl⟩
  rw [hL] at HL HO R1 ⊢
  clear hL h hm
  go_enter Tryd.func18, Tryd.ntmps18
  go_wp2_with (first
    | (refine wpList_load_midV (by rfl) _ _ rfl j 3 rfl L R1 Tryd.underlying50 rfl (by rw [HL.out]; kernel_rfl) ?_)
    | (have _t := r0; refine wpList_store_blk rfl _ _ _ rfl (ds := L) r0 rfl rfl (by rw [HL.out]; rfl) (by rw [HL.out]; kernel_rfl) HO.out ?_; clear _t; intro w9 r9 g9))
  refine bodyPost_ret (v := .agg L.toArray) (results_cell_row rfl _ _ w.heap.size 50 _ (0, 0) _ rfl r9 Tryd.underlying50 rfl (by rw [show L.toArray.size = 44 from HL.out]; kernel_rfl)) rfl ⟨rfl, ?_⟩
  exact hb0.trans (below_of_grown g9 hb0.size fun b hb => by injection hb with hb; omega)

theorem journal_build (a : Nat) (W : World) : (Instr.build 107 #[(0, .pointer (some ⟨a, 0, none⟩))]).run Tryd.prog W = .ok (.agg (jL a (.pointer none) (.pointer none) rec0.cells).toArray) W := by kernel_rfl
/-- The state behind n sectors. -/
def upto (f : Int → List Int × Int) : Nat → Rec × Bool
  | 0 => (rec0, false)
  | n + 1 => stepF f (upto f n) n
theorem upto_last (f : Int → List Int × Int) : (upto f 2).1 = lastF f := rfl
theorem getV_ok {xs : List Int} (ho : Octets xs) : (getV xs).Ok := by
  unfold getV
  split
  · rename_i h
    unfold getE at h
    split at h
    · cases h
    · exact recOf_ok xs ho (by omega)
  · exact rec0_ok
theorem rowF_octets {s : Dv} (hw : Pt.Whole s) (i : Int) : Octets (rowF s.read i) ∧ (rowF s.read i).length ≤ 99 := by
  unfold rowF
  split
  · rename_i h
    have := (hw i (s.read i).1 (Prod.ext rfl h)).2
    exact ⟨fun x hx => this x (List.mem_of_mem_take hx), by rw [List.length_take]; omega⟩
  · exact ⟨fun x hx => (List.not_mem_nil hx).elim, by simp⟩
theorem upto_ok {s : Dv} (hw : Pt.Whole s) : ∀ n, (upto s.read n).1.Ok
  | 0 => rec0_ok
  | n + 1 => by
    show (stepF s.read (upto s.read n) n).1.Ok
    unfold stepF
    split
    · exact getV_ok (rowF_octets hw n).1
    · exact upto_ok hw n

/-- Between the sectors that are read. -/
structure JGo (w W : World) (I : Nat → Prop) (a mk mw j p0 p1 : Nat) (s : Dv) (r : Rec) : Prop where
  d : DvAt W I a mk mw s
  b : Below w.heap.size w W
  at_ : JAt W j a p0 p1 r
  g : w.heap.size ≤ j
theorem JGo.below {w W W' : World} {I : Nat → Prop} {a mk mw j p0 p1 : Nat} {s : Dv} {r : Rec} (h : JGo w W I a mk mw j p0 p1 s r) (hb : Below W.heap.size W W') : JGo w W' I a mk mw j p0 p1 s r :=
  ⟨h.d.below hb, h.b.trans (hb.mono h.b.size), h.at_.below hb, h.g⟩
theorem JGo.stored {w W W' : World} {I : Nat → Prop} {a mk mw j p0 p1 : Nat} {s : Dv} {r t : Rec} (h : JGo w W I a mk mw j p0 p1 s r) (h0 : DvAt w I a mk mw s) (h1 : JBlk W' j a (.pointer (some ⟨p0, 0, none⟩)) (.pointer (some ⟨p1, 0, none⟩)) t.cells) (g : W.grownBy W' (some j)) : JGo w W' I a mk mw j p0 p1 s t :=
  have hb : Below w.heap.size w W' := h.b.trans (below_of_grown g h.b.size fun b hb => by injection hb with hb; have := h.g; omega)
  ⟨h0.below hb, hb, h.at_.stored h1 g, h.g⟩
end Go.Proofs.YtpnodocjpedcmaaDoor.Jr

namespace Go.Proofs.YtpnodocjpedcmaaDoor.Jr
open Go.ChangeShapes Go.WideShapes Go.ChangeAt Go.RowKit Go.Proofs.YtpnodocjpedcmaaDoor.Kit Go.Proofs.YtpnodocjpedcmaaDoor.Sec
open Go.Proofs.YtpnodocjpedcmaaDoor.Sha (LaidS)
open Go.Proofs.YtpnodocjpedcmaaDoor.Pt (PartAt Lies IsThere)

theorem cases_of (E q u : Int) (f : Bool) (n : Nat) (m : Int) (hm1 : m = n) : (E ≠ 0 ∧ (E == 0) = false) ∨ (E = 0 ∧ (E == 0) = true ∧ ((q % 2 ≠ n ∧ (q % 2 == m) = false) ∨ (q % 2 = n ∧ (q % 2 == m) = true ∧ (f = false ∨ (f = true ∧ ((u < q ∧ decide (u < q) = true) ∨ (¬ u < q ∧ decide (u < q) = false))))))) := by
  by_cases a1 : E = 0
  · refine Or.inr ⟨a1, by simp [a1], ?_⟩
    by_cases a2 : q % 2 = n
    · refine Or.inr ⟨a2, by rw [hm1]; simp [a2], ?_⟩
      cases f
      · exact Or.inl rfl
      · refine Or.inr ⟨rfl, ?_⟩
        by_cases a3 : u < q
        · exact Or.inl ⟨a3, by simpa using a3⟩
        · exact Or.inr ⟨a3, by simpa using a3⟩
    · exact Or.inl ⟨a2, by rw [hm1]; simpa using a2⟩
  · exact Or.inl ⟨a1, by simpa using a1⟩
def Opens (a : Nat) (s : Dv) (w : World) (e : Ending) (w' : World) : Prop :=
  Below w.heap.size w w' ∧ if s.off = true then e = .returned (.tuple #[.pointer none, .int .i64 8]) else ∃ j p0 p1, w.heap.size ≤ j ∧ e = .returned (.tuple #[.pointer (some ⟨j, 0, none⟩), .int .i64 0]) ∧ JAt w' j a p0 p1 (lastF s.read)

set_option maxRecDepth 100000 in
set_option maxHeartbeats 12800000 in
theorem jopen_any (I : Nat → Prop) (a mk mw : Nat) (s : Dv) (z0 z1 z2 z3 z4 z5 z6 : Int) (w : World) (h : DvAt w I a mk mw s) (hc : 2 ≤ s.count) (hL : LaidS w) :
    Calls Tryd.prog 16 #[.pointer (some ⟨a, 0, none⟩), .agg #[.int .i64 0, .int .i64 1, .int .i64 1, .int .i64 1, .int .i64 z0, .int .i64 z1, .int .i64 z2, .int .i64 z3, .int .i64 z4, .int .i64 z5, .int .i64 z6]] w (Opens a s w) := by
  have GP : Hid (∀ W F C, IsThere s.count F C → DvAt W I a mk mw s → Calls Tryd.prog 48 #[.pointer (some ⟨a, 0, none⟩), .agg #[.int .i64 F, .int .i64 C]] W fun e w' => ∃ p, W.heap.size ≤ p ∧ e = .returned (.tuple #[.pointer (some ⟨p, 0, none⟩), .int .i64 0]) ∧ PartAt w' p a F C ∧ Below W.heap.size W w') := Lib.hid (fun W F C hi hd => by
    have hc := hd.ok.c2
    unfold IsThere at hi
    refine (Pt.open_any I a mk mw F C s W hd (by omega) (by omega)).mono fun e w' ⟨h1, h2, _⟩ => ?_
    obtain ⟨p, hp, he, hP⟩ := h2 hi
    exact ⟨p, hp, he, hP, h1⟩)
  have GO0 := Lib.hid (fun W => GP.out W 0 1 (by unfold IsThere; omega))
  have GO1 := Lib.hid (fun W => GP.out W 1 1 (by unfold IsThere; omega))
  have HW : Hid (∀ V, Below w.heap.size w V → DvAt V I a mk mw s) := Lib.hid (fun V hb => h.below hb)
  have HB := Lib.hid (fun W => journal_build a W)
  have HLS : Hid (∀ V, Below w.heap.size w V → LaidS V) := Lib.hid (fun V hb => hL.below hb)
  have hsz := h.ok.s1
  have hwh := Pt.whole_of h
  have HR0 := Lib.hid (rec0.cells_length rfl)
  have h0 := Lib.hid h
  have i0 : ∀ w, (Instr.index 43 (.agg #[.int .i64 0, .int .i64 1, .int .i64 1, .int .i64 1]) (.int .i64 0)).run Tryd.prog w = .ok (.agg #[.int .i64 0, .int .i64 1]) w := fun _ => by kernel_rfl
  have i1 : ∀ w, (Instr.index 43 (.agg #[.int .i64 0, .int .i64 1, .int .i64 1, .int .i64 1]) (.int .i64 1)).run Tryd.prog w = .ok (.agg #[.int .i64 1, .int .i64 1]) w := fun _ => by kernel_rfl
  have B0 : Below w.heap.size w (w.alloc (.cells #[.int .i64 0, .int .i64 1, .int .i64 1, .int .i64 1, .int .i64 z0, .int .i64 z1, .int .i64 z2, .int .i64 z3, .int .i64 z4, .int .i64 z5, .int .i64 z6] 45)) := (Below.refl _ _).alloc (Nat.le_refl _) _
  obtain ⟨V0, hV0⟩ : ∃ V0, V0 = w.alloc (.cells #[.int .i64 0, .int .i64 1, .int .i64 1, .int .i64 1, .int .i64 z0, .int .i64 z1, .int .i64 z2, .int .i64 z3, .int .i64 z4, .int .i64 z5, .int .i64 z6] 45) := ⟨_, rfl⟩
  have M0 : Block V0 w.heap.size 45 #[.int .i64 0, .int .i64 1, .int .i64 1, .int .i64 1, .int .i64 z0, .int .i64 z1, .int .i64 z2, .int .i64 z3, .int .i64 z4, .int .i64 z5, .int .i64 z6] := by rw [hV0]; exact Block.new w _ _
  have zV : V0.heap.size = w.heap.size + 1 := by rw [hV0]; simp
  rw [← hV0] at B0
  have X1 : JBlk (V0.alloc (.cells (jL a (.pointer none) (.pointer none) rec0.cells).toArray 107)) V0.heap.size a (.pointer none) (.pointer none) rec0.cells := Block.new V0 _ _
  have B1 := B0.alloc B0.size (.cells (jL a (.pointer none) (.pointer none) rec0.cells).toArray 107)
  have M1 := M0.alloc (.cells (jL a (.pointer none) (.pointer none) rec0.cells).toArray 107)
  obtain ⟨LJ, hLJ⟩ : ∃ LJ, jL a (.pointer none) (.pointer none) rec0.cells = LJ := ⟨_, rfl⟩
  rw [hLJ] at HB X1 B1 M1
  obtain ⟨V1, hV1⟩ : ∃ V1, V1 = V0.alloc (.cells LJ.toArray 107) := ⟨_, rfl⟩
  rw [← hV1] at X1 B1 M1
  obtain ⟨j, hj⟩ : ∃ j, j = V0.heap.size := ⟨_, rfl⟩
  have zV1 : V1.heap.size = j + 1 := by rw [hV1, hj]; simp
  rw [← hj] at X1
  have hwj : w.heap.size ≤ j := by omega
  have m0 := M1.cell 0
  have m1 := M1.cell 1
  have m2 := M1.cell 2
  have m3 := M1.cell 3
  simp at m0 m1 m2 m3
  have HV0 := Lib.hid hV0
  have HV1 := Lib.hid hV1
  have HJ := Lib.hid hj
  clear GP h hL B0 M0 zV hLJ hV0 hV1 hj
  go_enter Tryd.func16, Tryd.ntmps16
  go_upto_region 1 with fail
  rw [← HV0.out]
  go_upto_region 2 with (refine wpList_build_known rfl _ _ rfl (.agg LJ.toArray) ?_ ?_; (intro W; have hw9 := HB.out W; simpa [Act.eval] using hw9))
  rw [← HV1.out, ← HJ.out]
  clear HV0 HV1 HJ
  go_wp2_with fail
  refine wp_loop_rounds 3 ?_
  rw [rounds_succ]
  have D1 := HW.out _ B1
  have B2 := B1.alloc B1.size (.cells #[.int .i64 0, .int .i64 1] 42)
  have D2 := HW.out _ B2
  have X2 := X1.alloc (.cells #[.int .i64 0, .int .i64 1] 42)
  have c1 := X2.c1
  have f1 := X2.free 1
  go_wp2_with (go_at_call 48; (with_reducible refine (GO0.out _ D2).mono ?_); rintro e y0 ⟨p0, hp0, rfl, P0, hb0⟩; clear c1 f1; have X3 := X2.below hb0; have c1 := X3.c1; have f1 := X3.free 1)
  have zy : j + 1 < y0.heap.size := by
    have := hb0.size
    have z2 : (V1.alloc (.cells #[.int .i64 0, .int .i64 1] 42)).heap.size = j + 2 := by simp [zV1]
    omega
  have hp0j : j + 2 ≤ p0 := by
    have z2 : (V1.alloc (.cells #[.int .i64 0, .int .i64 1] 42)).heap.size = j + 2 := by simp [zV1]
    omega
  have X4 := X3.put1 (.pointer (some ⟨p0, 0, none⟩))
  have B4 : Below w.heap.size w (y0.setCell ⟨j, 1, none⟩ (.pointer (some ⟨p0, 0, none⟩))) := (B2.trans (hb0.mono B2.size)).setCell hwj _
  have P0 : PartAt (y0.setCell ⟨j, 1, none⟩ (.pointer (some ⟨p0, 0, none⟩))) p0 a 0 1 := Block.far P0 (by show p0 ≠ j; omega) _
  obtain ⟨V2, hV2⟩ : ∃ V2, V2 = y0.setCell ⟨j, 1, none⟩ (.pointer (some ⟨p0, 0, none⟩)) := ⟨_, rfl⟩
  rw [← hV2] at X4 B4 P0 ⊢
  clear hV2 c1 f1 X3 X2 D2 B2 hb0 X1 B1 D1 M1
  have B5 := B4.alloc B4.size (.cells #[.int .i64 1, .int .i64 1] 42)
  have D5 := HW.out _ B5
  have X5 := X4.alloc (.cells #[.int .i64 1, .int .i64 1] 42)
  have P05 : PartAt (V2.alloc (.cells #[.int .i64 1, .int .i64 1] 42)) p0 a 0 1 := Block.alloc P0 _
  have zj := X5.lt
  have c2 := X5.c2
  have f2 := X5.free 2
  rw [rounds_succ]
  go_wp2_with (go_at_call 48; (with_reducible refine (GO1.out _ D5).mono ?_); rintro e y1 ⟨p1, hp1, rfl, P1, hb1⟩; clear c2 f2; have X6 := X5.below hb1; have c2 := X6.c2; have f2 := X6.free 2)
  have hp1j : p1 ≠ j := by omega
  have X7 := X6.put2 (.pointer (some ⟨p1, 0, none⟩))
  have B7 : Below w.heap.size w (y1.setCell ⟨j, 2, none⟩ (.pointer (some ⟨p1, 0, none⟩))) := (B5.trans (hb1.mono B5.size)).setCell hwj _
  have P07 : PartAt (y1.setCell ⟨j, 2, none⟩ (.pointer (some ⟨p1, 0, none⟩))) p0 a 0 1 := Block.far (Block.below P05 hb1 (Block.lt P05)) (by show p0 ≠ j; omega) _
  have P17 : PartAt (y1.setCell ⟨j, 2, none⟩ (.pointer (some ⟨p1, 0, none⟩))) p1 a 1 1 := Block.far P1 (by show p1 ≠ j; exact hp1j) _
  have G7 : JGo w (y1.setCell ⟨j, 2, none⟩ (.pointer (some ⟨p1, 0, none⟩))) I a mk mw j p0 p1 s rec0 := ⟨HW.out _ B7, B7, ⟨X7, P07, P17⟩, hwj⟩
  obtain ⟨V3, hV3⟩ : ∃ V3, V3 = y1.setCell ⟨j, 2, none⟩ (.pointer (some ⟨p1, 0, none⟩)) := ⟨_, rfl⟩
  rw [← hV3] at G7 ⊢
  clear hV3 X7 B7 P07 P17 X6 c2 f2 P05 P0 X5 B5 D5 X4 B4 hb1 P1 hp1 hp0 zj zy zV1 hp0j hp1j m0 m1 m2 m3 i0 i1 GO0 GO1 HB
  rw [rounds_succ]
  have GI := Lib.hid (isOn_any I a mk mw s V3 G7.d)
  cases hoff : s.off with
  | true =>
    rw [hoff] at GI
    have HOF := Lib.hid hoff
    clear hoff
    go_wp2_with (go_at_call 41; (with_reducible refine GI.out.mono ?_); rintro e w' ⟨rfl, rfl⟩)
    go_ret2
    refine ⟨G7.b, ?_⟩
    rw [if_pos HOF.out]
    rfl
  | false =>
    rw [hoff] at GI
    have HOF := Lib.hid hoff
    clear hoff
    have c1 := G7.at_.j.c1
    have c2 := G7.at_.j.c2
    have i0 : ∀ w, (Instr.index 105 (.agg #[.pointer (some ⟨p0, 0, none⟩), .pointer (some ⟨p1, 0, none⟩)]) (.int .i64 0)).run Tryd.prog w = .ok (.pointer (some ⟨p0, 0, none⟩)) w := fun _ => by kernel_rfl
    have i1 : ∀ w, (Instr.index 105 (.agg #[.pointer (some ⟨p0, 0, none⟩), .pointer (some ⟨p1, 0, none⟩)]) (.int .i64 1)).run Tryd.prog w = .ok (.pointer (some ⟨p1, 0, none⟩)) w := fun _ => by kernel_rfl
    go_wp2_with (go_at_call 41; (with_reducible refine GI.out.mono ?_); rintro e w' ⟨rfl, rfl⟩)
    clear c1 c2 GI
    have GPR : Hid (∀ (n p : Nat) (W : World) (r : Rec), ((n = 0 ∧ p = p0) ∨ (n = 1 ∧ p = p1)) → JGo w W I a mk mw j p0 p1 s r → Calls Tryd.prog 49 #[.pointer (some ⟨p, 0, none⟩), .int .i64 0, .int .i64 99] W fun e w' => ∃ (A : Option Addr) (c : Nat) (E : Int), e = .returned (.tuple #[.slice A (rowF s.read n).length c, .int .i64 E]) ∧ (rowF s.read n).length ≤ c ∧ c ≤ maxLen ∧ Holds w' w'.heap.size .u8 A (rowF s.read n) ∧ Below W.heap.size W w') := Lib.hid (fun n p W r hn G => by
      have hl : Lies s n 1 s.size := ⟨by omega, by omega, by omega, by omega⟩
      have key : ∀ p, PartAt W p a n 1 → Calls Tryd.prog 49 #[.pointer (some ⟨p, 0, none⟩), .int .i64 0, .int .i64 99] W fun e w' => ∃ (A : Option Addr) (c : Nat) (E : Int), e = .returned (.tuple #[.slice A (rowF s.read n).length c, .int .i64 E]) ∧ (rowF s.read n).length ≤ c ∧ c ≤ maxLen ∧ Holds w' w'.heap.size .u8 A (rowF s.read n) ∧ Below W.heap.size W w' := by
        intro p hp
        refine (Pt.pread_any I p a mk mw n 1 s.size s 0 99 W hp G.d hl (by omega)).mono ?_
        rintro e w' ⟨q, hq, v, he, ho, hb⟩
        rw [pread_rowF hsz hwh (by omega) hq] at ho
        obtain ⟨A, c, rfl, h1, h2, h3⟩ := ho.opened
        exact ⟨A, c, q.2, he, h1, h2, h3, hb⟩
      rcases hn with ⟨rfl, rfl⟩ | ⟨rfl, rfl⟩
      · exact key p G.at_.p0
      · exact key p G.at_.p1)
    have GGT : Hid (∀ (n : Nat) (W : World) (A : Option Addr) (c : Nat), Below w.heap.size w W → (rowF s.read n).length ≤ c → c ≤ maxLen → Holds W W.heap.size .u8 A (rowF s.read n) → Calls Tryd.prog 50 #[.slice A (rowF s.read n).length c] W (GetsR (getV (rowF s.read n)) (getE (rowF s.read n)) W)) := Lib.hid (fun n W A c hb hc hm hr => jget_any A _ c W hc hm (by have := (rowF_octets hwh n).2; omega) (rowF_octets hwh n).1 hr (HLS.out W hb))
    go_loopw [49, 11] (fun k f W => ∃ n : Nat, n ≤ 2 ∧ k = .int .i64 n ∧ f = .bool (upto s.read n).2 ∧ JGo w W I a mk mw j p0 p1 s (upto s.read n).1) (fun k _ _ => (2 - intOf k).toNat)
    case atStart => exact ⟨0, by omega, rfl, rfl, G7⟩
    case round =>
      obtain ⟨n, hn, rfl, rfl, G⟩ := hrel
      by_cases hlt : n < 2
      case neg =>
        obtain rfl : n = 2 := by omega
        have d1 : decide (((2 : Nat) : Int) < 2) = false := by decide
        go_wp2_with fail
        go_ret2
        refine ⟨G.b, ?_⟩
        rw [if_neg (by rw [HOF.out]; simp)]
        exact ⟨j, p0, p1, hwj, rfl, G.at_⟩
      case pos =>
        have hro := upto_ok hwh n
        have hok := getV_ok (rowF_octets hwh n).1
        have HY1 : Hid (((getE (rowF s.read n) = 0 ∧ (getV (rowF s.read n)).seq % 2 = n) ∧ ((upto s.read n).2 = false ∨ (upto s.read n).1.seq < (getV (rowF s.read n)).seq)) → upto s.read (n + 1) = (getV (rowF s.read n), true)) := Lib.hid (fun c => by
          show stepF s.read (upto s.read n) n = _
          unfold stepF
          rw [if_pos ⟨⟨c.1.1, c.1.2⟩, c.2⟩])
        have HY2 : Hid (¬ ((getE (rowF s.read n) = 0 ∧ (getV (rowF s.read n)).seq % 2 = n) ∧ ((upto s.read n).2 = false ∨ (upto s.read n).1.seq < (getV (rowF s.read n)).seq)) → upto s.read (n + 1) = ((upto s.read n).1, (upto s.read n).2)) := Lib.hid (fun c => by
          show stepF s.read (upto s.read n) n = _
          unfold stepF
          rw [if_neg (fun x => c ⟨⟨x.1.1, x.1.2⟩, x.2⟩)])
        obtain ⟨p, m, hpm⟩ : ∃ (p : Nat) (m : Int), (n = 0 ∧ p = p0 ∧ m = 0) ∨ (n = 1 ∧ p = p1 ∧ m = 1) := by
          have : n = 0 ∨ n = 1 := by omega
          rcases this with e | e
          · exact ⟨p0, 0, Or.inl ⟨e, rfl, rfl⟩⟩
          · exact ⟨p1, 1, Or.inr ⟨e, rfl, rfl⟩⟩
        have hp : (n = 0 ∧ p = p0) ∨ (n = 1 ∧ p = p1) := hpm.imp (fun h => ⟨h.1, h.2.1⟩) (fun h => ⟨h.1, h.2.1⟩)
        have hm1 : m = n := by
          rcases hpm with ⟨rfl, _, rfl⟩ | ⟨rfl, _, rfl⟩ <;> rfl
        have GP9 := Lib.hid (GPR.out n p wr (upto s.read n).1 hp G)
        have GG9 := Lib.hid (fun W A c => GGT.out n W A c)
        have HL := Lib.hid ((getV (rowF s.read n)).cells_length hok.man)
        have HO := Lib.hid (getV (rowF s.read n)).cells_one
        have HU := Lib.hid ((upto s.read n).1.cells_length hro.man)
        have hq := hok.seq
        have hu := hro.seq
        have HC0 : Hid ((getV (rowF s.read n)).cells[0]? = some (.int .u64 (getV (rowF s.read n)).seq)) := Lib.hid rfl
        have HU0 : Hid ((upto s.read n).1.cells[0]? = some (.int .u64 (upto s.read n).1.seq)) := Lib.hid rfl
        clear hro hok GPR GGT
        generalize (upto s.read n).1 = l at *
        generalize (upto s.read n).2 = f at *
        generalize getV (rowF s.read n) = r at *
        generalize getE (rowF s.read n) = E at *
        generalize rowF s.read n = xs at *
        have HM1 := Lib.hid hm1
        clear hm1 hp
        rcases hpm with ⟨rfl, rfl, rfl⟩ | ⟨rfl, rfl, rfl⟩
        all_goals
          go_upto_region 18 with (first
            | (go_at_call 49; (with_reducible refine GP9.out.mono ?_); rintro e w1 ⟨A1, k1, E1, rfl, g1, g2, g3, hb1⟩; have G1 := G.below hb1)
            | (go_at_call 50; (with_reducible refine (GG9.out _ A1 k1 G1.b g1 g2 g3).mono ?_); rintro e w2 ⟨rfl, hb2⟩; have G2 := G1.below hb2)
            | (have _t := G2; refine wpList_store_blk rfl _ _ _ rfl (ds := r.cells) (Block.new w2 50 rec0.cells.toArray) rfl rfl (by rw [HL.out]; rfl) (by rw [HL.out]; kernel_rfl) HO.out ?_; clear _t; intro w6 N6 g6; have G6 := G2.below ((below_last w2 _).trans (below_of_grown g6 (below_last w2 _).size fun b hb => by injection hb with hb; omega))))
          have n0 : w6.cell? ⟨w2.heap.size, 0, none⟩ = some (.int .u64 r.seq) := (Block.cell N6 0).trans (by simpa using HC0.out)
          have n3 : w6.cell? ⟨j, 3, none⟩ = some (.int .u64 l.seq) := (G6.at_.j.c3 0).trans HU0.out
          have hmm : r.seq.tmod 2 = r.seq % 2 := Int.tmod_eq_emod_of_nonneg (by omega)
          have GW6 := Lib.hid G6
          have HN6 := Lib.hid N6
          clear g6 G6 N6 G2 hb2 hb1 G1 g1 g2 g3 HC0 HU0 G GP9 GG9 HW HLS G7 P0 i0 i1
          generalize r.seq = q at *
          generalize l.seq = u at *
          have hcs := cases_of E q u f _ _ HM1.out
          clear HM1
          rcases hcs with ⟨b1, e1⟩ | ⟨b1, e1, ⟨b2, e2⟩ | ⟨b2, e2, b3 | ⟨b3, ⟨b4, e4⟩ | ⟨b4, e4⟩⟩⟩⟩
          case' inl => have HY := Lib.hid (HY2.out (fun c => b1 c.1.1))
          case' inr.inl => have HY := Lib.hid (HY2.out (fun c => b2 c.1.2))
          case' inr.inr.inl => have HY := Lib.hid (HY1.out ⟨⟨b1, b2⟩, Or.inl b3⟩); subst b3
          case' inr.inr.inr.inl => have HY := Lib.hid (HY1.out ⟨⟨b1, b2⟩, Or.inr b4⟩); subst b3
          case' inr.inr.inr.inr => have HY := Lib.hid (HY2.out (fun c => c.2.elim (fun c => absurd (b3.symm.trans c) (by decide)) b4)); subst b3
          all_goals
            first
              | clear b1 b2 b4
              | clear b1 b2
              | clear b1
            clear HY1 HY2
            go_quiet (fail)
            clear hmm n0 n3
            have G9 := GW6.out.below (below_draws (Below.refl _ _) nq)
            have N9 : Block (w6.drewN nq) w2.heap.size 50 r.cells.toArray := HN6.out.drewN nq
            have R9 := block_range N9
            clear HN6 N9
            generalize w6.drewN nq = w9 at *
            go_wp2_with (first
              | (refine wpList_load_midV (by rfl) _ _ rfl w2.heap.size 0 rfl r.cells R9 Tryd.underlying50 rfl (by rw [HL.out]; kernel_rfl) ?_)
              | (have _t := G9; refine wpList_store_last rfl _ _ _ rfl G9.at_.j HU.out HL.out rfl rfl (by kernel_rfl) HO.out ?_; clear _t; intro w10 X10 g10; have G10 := G9.stored h0.out X10 g10; clear g10 X10))
            first
              | (have GE := G10; clear G10)
              | (have GE := G9; clear G9)
            go_roundw
            case rel => first | (refine ⟨0 + 1, by omega, by go_num, ?_, ?_⟩ <;> rw [HY.out]; exact GE) | (refine ⟨1 + 1, by omega, by go_num, ?_, ?_⟩ <;> rw [HY.out]; exact GE)
            case measure => simp [intOf] <;> omega
end Go.Proofs.YtpnodocjpedcmaaDoor.Jr

namespace Go.Proofs.YtpnodocjpedcmaaDoor.Jr
open Go.ChangeShapes Go.WideShapes Go.ChangeAt Go.RowKit Go.Proofs.YtpnodocjpedcmaaDoor.Kit Go.Proofs.YtpnodocjpedcmaaDoor.Sec
open Go.Proofs.YtpnodocjpedcmaaDoor.Sha (LaidS)
open Go.Proofs.YtpnodocjpedcmaaDoor.Pt (PartAt Lies chunkP chunkP_length PWrite)

/-- A record with another number. -/
def Rec.num (r : Rec) (k : Int) : Rec := { r with seq := k }
theorem Rec.num_ok {r : Rec} (h : r.Ok) {k : Int} (h0 : 0 ≤ k) (h1 : k < 18446744073709551616) : (r.num k).Ok := ⟨⟨h0, h1⟩, h.act, h.ver, h.len, h.st, h.md, h.man, h.mano, h.nv, h.nl, h.dn, h.at_, h.blk, h.asz⟩
theorem cells_set0 (r : Rec) (v : Int) : r.cells.toArray.setIfInBounds 0 (.int .u64 v) = (r.num v).cells.toArray := by
  simp [Rec.cells, Rec.num]
/-- The blocks of a journal and its device. -/
def JSet (a mk mw j b : Nat) : Prop := DSet a mk mw b ∨ b = j
/-- What a journal's Write of a record leaves: the device, and the journal's last record. -/
def Wrote (I : Nat → Prop) (a mk mw j p0 p1 : Nat) (q : Int × Dv) (last t : Rec) (w : World) (e : Ending) (w' : World) : Prop :=
  e = .returned (.int .i64 q.1) ∧ DvAt w' I a mk mw q.2 ∧ JAt w' j a p0 p1 (if q.1 = 0 then t else last) ∧ TurnsIn (JSet a mk mw j) w w'

theorem sync_code (s : Dv) : s.sync.1 = 0 ∨ s.sync.1 = 8 := by
  unfold Dv.sync
  split
  · exact Or.inr rfl
  · split
    · exact Or.inr rfl
    · exact Or.inl rfl
theorem write_code {s : Dv} {i : Int} {xs : List Int} (h0 : 0 ≤ i) (h1 : i < s.count) (hx : xs.length = s.size) : (s.write i xs).1 = 0 ∨ (s.write i xs).1 = 8 := by
  unfold Dv.write
  split
  · exact Or.inr rfl
  · rw [if_neg (by omega), if_neg (fun c => c hx)]
    split
    · exact Or.inr rfl
    · exact Or.inl rfl
theorem sync_near (s : Dv) : s.sync.2.offs ≤ s.offs + 1 ∧ s.sync.2.wr = s.wr ∧ s.sync.2.size = s.size ∧ s.sync.2.count = s.count := by
  have hd := Pt.down_near s
  have ht : s.tick.offs ≤ s.offs + 1 ∧ s.tick.wr = s.wr ∧ s.tick.size = s.size ∧ s.tick.count = s.count := by
    unfold Dv.tick
    split
    · exact ⟨by omega, rfl, rfl, rfl⟩
    · split
      · exact hd
      · exact ⟨by show s.offs ≤ _; omega, rfl, rfl, rfl⟩
  unfold Dv.sync
  split
  · exact ⟨by show s.offs ≤ _; omega, rfl, rfl, rfl⟩
  · split
    · exact ht
    · exact ht

theorem TurnsIn.jd {w w' : World} {a mk mw j : Nat} (h : TurnsIn (DSet a mk mw) w w') : TurnsIn (JSet a mk mw j) w w' := h.mono fun _ _ h => Or.inl h

set_option maxRecDepth 100000 in
set_option maxHeartbeats 12800000 in
theorem jwrite_no (j a p0 p1 : Nat) (last r : Rec) (w : World) (hj : JAt w j a p0 p1 last) (hr : r.Ok) (h0 : 0 ≤ last.seq ∧ last.seq ≤ 1000000) (hm : (r.num (last.seq + 1)).may = false) (hL : LaidS w) :
    Calls Tryd.prog 21 #[.pointer (some ⟨j, 0, none⟩), .agg r.cells.toArray] w fun e w' => e = .returned (.int .i64 3) ∧ Below w.heap.size w w' := by
  have hok : (r.num (last.seq + 1)).Ok := Rec.num_ok hr (by omega) (by omega)
  have GP : Hid (∀ W, Below w.heap.size w W → Calls Tryd.prog 40 #[.agg (r.num (last.seq + 1)).cells.toArray] W (Gives2 [] 3 W)) := Lib.hid (fun W hb => by
    have := jput_any (r.num (last.seq + 1)) hok W (hL.below hb)
    unfold Rec.putV Rec.putE at this
    rw [hm] at this
    exact this)
  have HL := Lib.hid ((r.num (last.seq + 1)).cells_length hok.man)
  have B1 := below_last w (.cells r.cells.toArray 50)
  have J1 := hj.alloc (.cells r.cells.toArray 50)
  have N1 : Block (w.alloc (.cells r.cells.toArray 50)) w.heap.size 50 r.cells.toArray := Block.new w _ _
  have hset := cells_set0 r (last.seq + 1)
  have q0 : (w.alloc (.cells r.cells.toArray 50)).cell? ⟨j, 3, none⟩ = some (.int .u64 last.seq) := by
    have := J1.j.c3 0
    rw [this]
    rfl
  have q1 : (w.alloc (.cells r.cells.toArray 50)).cell? ⟨w.heap.size, 0, none⟩ = some (.int .u64 r.seq) := RecAt.front N1 |>.1
  have q2 := N1.frozen 0
  have hw1 : IntKind.u64.wrap (last.seq + 1) = last.seq + 1 := IntWalk.u64_in _ (by omega)
  have N2 : Block (w.alloc (.cells (r.num (last.seq + 1)).cells.toArray 50)) w.heap.size 50 (r.num (last.seq + 1)).cells.toArray := Block.new w _ _
  have B2 := below_last w (.cells (r.num (last.seq + 1)).cells.toArray 50)
  have R2 := block_range N2
  obtain ⟨L, hLL⟩ : ∃ L, (r.num (last.seq + 1)).cells = L := ⟨_, rfl⟩
  rw [hLL] at GP HL B2 R2 hset
  obtain ⟨Z, hZ⟩ : ∃ Z, r.cells.toArray = Z := ⟨_, rfl⟩
  rw [hZ] at q0 q1 q2 hset ⊢
  have HS := Lib.hid hset
  have HW1 := Lib.hid hw1
  obtain ⟨k, hk⟩ : ∃ k, last.seq = k := ⟨_, rfl⟩
  rw [hk] at q0 HS h0 HW1
  clear hw1 hset hLL hZ hk N1 N2 J1 B1 hj hok hm
  go_enter Tryd.func21, Tryd.ntmps21
  go_upto_region 4 with fail
  first | rw [HS.out] | (rw [HW1.out]; rw [HS.out])
  obtain ⟨V, hV⟩ : ∃ V, V = w.alloc (.cells L.toArray 50) := ⟨_, rfl⟩
  rw [← hV] at B2 R2 ⊢
  clear hV q0 q1 q2
  go_wp2_with (first
    | (refine wpList_load_midV (by rfl) _ _ rfl w.heap.size 0 rfl L R2 Tryd.underlying50 rfl (by rw [HL.out]; kernel_rfl) ?_)
    | (go_at_call 40; (with_reducible refine (GP.out _ B2).mono ?_); rintro e w2 ⟨A2, c2, rfl, hl2, hm2, hr2, hb2⟩))
  go_ret
  exact ⟨rfl, B2.trans (hb2.mono B2.size)⟩

theorem dv_ne_j {I : Nat → Prop} {a mk mw j p0 p1 : Nat} {s : Dv} {r : Rec} {w : World} (h : DvAt w I a mk mw s) (hj : JAt w j a p0 p1 r) : a ≠ j ∧ mk ≠ j ∧ mw ≠ j := by
  have := h.not_cells hj.j (by decide)
  exact ⟨fun e => this (Or.inl e.symm), fun e => this (Or.inr (Or.inl e.symm)), fun e => this (Or.inr (Or.inr e.symm))⟩
theorem JAt.no_row {a j p0 p1 : Nat} {r : Rec} {w : World} (hj : JAt w j a p0 p1 r) (cs : Array Value) (f : Nat × Nat) : w.heap[j]? ≠ some (.cells cs 5 f) := by
  intro e
  have h := hj.j
  unfold JBlk Block at h
  rw [h] at e
  injection e with e
  injection e with _ e _
  exact absurd e (by decide)
theorem write_near1 (s : Dv) (i : Int) (xs : List Int) : (s.write i xs).2.offs ≤ s.offs + 1 ∧ (s.write i xs).2.wr ≤ s.wr + 1 ∧ (s.write i xs).2.size = s.size ∧ (s.write i xs).2.count = s.count := Pt.write_near s i xs

set_option maxRecDepth 100000 in
set_option maxHeartbeats 12800000 in
theorem jwrite_yes (I : Nat → Prop) (j a p0 p1 mk mw : Nat) (s : Dv) (last r : Rec) (w : World) (hj : JAt w j a p0 p1 last) (h : DvAt w I a mk mw s) (hI : ∀ g, w.heap.size ≤ g → I g) (hr : r.Ok) (hlm : last.man.length = 32) (h0 : 0 ≤ last.seq ∧ last.seq ≤ 1000000) (hm : (r.num (last.seq + 1)).may = true)
    (hc : 2 ≤ s.count) (hof : s.offs ≤ 90000000) (hwr : s.wr ≤ 90000000) (hL : LaidS w) :
    Calls Tryd.prog 21 #[.pointer (some ⟨j, 0, none⟩), .agg r.cells.toArray] w (Wrote I a mk mw j p0 p1 (writeJ s ((last.seq + 1) % 2) (chunkP s.size (r.num (last.seq + 1)).putL 0)) last (r.num (last.seq + 1)) w) := by
  have hok : (r.num (last.seq + 1)).Ok := Rec.num_ok hr (by omega) (by omega)
  obtain ⟨_, _, hpl, hpo⟩ := got_put _ hok hm
  have GP : Hid (∀ W, Below w.heap.size w W → Calls Tryd.prog 40 #[.agg (r.num (last.seq + 1)).cells.toArray] W (Gives2 (r.num (last.seq + 1)).putL 0 W)) := Lib.hid (fun W hb => by
    have := jput_any (r.num (last.seq + 1)) hok W (hL.below hb)
    unfold Rec.putV Rec.putE at this
    rw [hm] at this
    exact this)
  have HL := Lib.hid ((r.num (last.seq + 1)).cells_length hok.man)
  have HO := Lib.hid (r.num (last.seq + 1)).cells_one
  have HLL := Lib.hid (last.cells_length hlm)
  have B1 := below_last w (.cells r.cells.toArray 50)
  have J1 := hj.alloc (.cells r.cells.toArray 50)
  have N1 : Block (w.alloc (.cells r.cells.toArray 50)) w.heap.size 50 r.cells.toArray := Block.new w _ _
  have hset := cells_set0 r (last.seq + 1)
  have q0 : (w.alloc (.cells r.cells.toArray 50)).cell? ⟨j, 3, none⟩ = some (.int .u64 last.seq) := by
    have := J1.j.c3 0
    rw [this]
    rfl
  have q1 : (w.alloc (.cells r.cells.toArray 50)).cell? ⟨w.heap.size, 0, none⟩ = some (.int .u64 r.seq) := RecAt.front N1 |>.1
  have q2 := N1.frozen 0
  have hw1 : IntKind.u64.wrap (last.seq + 1) = last.seq + 1 := IntWalk.u64_in _ (by omega)
  have N2 : Block (w.alloc (.cells (r.num (last.seq + 1)).cells.toArray 50)) w.heap.size 50 (r.num (last.seq + 1)).cells.toArray := Block.new w _ _
  have B2 := below_last w (.cells (r.num (last.seq + 1)).cells.toArray 50)
  have J2 := hj.alloc (.cells (r.num (last.seq + 1)).cells.toArray 50)
  have D2 := h.alloc (.cells (r.num (last.seq + 1)).cells.toArray 50)
  have HC0 : Hid ((r.num (last.seq + 1)).cells[0]? = some (.int .u64 (last.seq + 1))) := Lib.hid rfl
  obtain ⟨X, hX⟩ : ∃ X, chunkP s.size (r.num (last.seq + 1)).putL 0 = X := ⟨_, rfl⟩
  have HX := Lib.hid hX
  have hXl : X.length = s.size := by rw [← hX]; exact chunkP_length _ _ _
  rw [hX]
  clear hX
  have HT : Hid (r.num (last.seq + 1) = r.num (last.seq + 1)) := Lib.hid rfl
  generalize r.num (last.seq + 1) = t at *
  obtain ⟨L, hLL⟩ : ∃ L, t.cells = L := ⟨_, rfl⟩
  rw [hLL] at GP HL HO B2 J2 D2 N2 hset HC0
  obtain ⟨Z, hZ⟩ : ∃ Z, r.cells.toArray = Z := ⟨_, rfl⟩
  rw [hZ] at q0 q1 q2 hset ⊢
  have HS := Lib.hid hset
  have HW1 := Lib.hid hw1
  obtain ⟨k, hk⟩ : ∃ k, last.seq = k := ⟨_, rfl⟩
  rw [hk] at q0 HS h0 HW1 HC0
  have HLS := Lib.hid hLL
  have HK := Lib.hid hk
  rw [hk]
  obtain ⟨q, hq⟩ : ∃ q, writeJ s ((k + 1) % 2) X = q := ⟨_, rfl⟩
  rw [hq]
  have HQ := Lib.hid hq
  clear hq
  obtain ⟨ys, hys⟩ : ∃ ys, t.putL = ys := ⟨_, rfl⟩
  rw [hys] at GP HX hpl hpo
  have hsz := h.ok.s1
  have hsn := sync_near s
  have GS : Hid (∀ W u, u.offs ≤ 1000000000 → DvAt W I a mk mw u → Calls Tryd.prog 53 #[.pointer (some ⟨a, 0, none⟩)] W (Sec.Leaves I a mk mw W u.sync.2 (.int .i64 u.sync.1))) := Lib.hid (fun W u ho hd => sync_any I a mk mw u W hd ho)
  have GW : Hid (∀ (W : World) (p i : Nat) (A : Option Addr) (c : Nat) (u : Dv), i < 2 → PartAt W p a i 1 → DvAt W I a mk mw u → w.heap.size ≤ W.heap.size → u.size = s.size → u.count = s.count → u.offs ≤ s.offs + 10 → u.wr ≤ s.wr + 10 → ys.length ≤ c → c ≤ maxLen → Holds W W.heap.size .u8 A ys →
      Calls Tryd.prog 54 #[.pointer (some ⟨p, 0, none⟩), .int .i64 0, .slice A ys.length c] W (Sec.Leaves I a mk mw W (u.write i X).2 (.int .i64 (u.write i X).1))) := Lib.hid (fun W p i A c u hi hp hd hle hus huc huo huw hcl hcm hh => by
    have hl : Lies u i 1 u.size := ⟨by omega, by omega, by omega, by omega⟩
    refine (Pt.pwrite_any I p a mk mw i 1 u.size u 0 A ys c W hp hd (fun g hg => hI g (by omega)) hl (by omega) (by omega) hcl hcm hpo hh (by omega) (by omega)).mono ?_
    rintro e w' ⟨q, hq, he, hd', ht⟩
    have hq2 := pwrite_sec (by rw [hus]; exact hsz) (by rw [hus]; omega) hpl hq
    rw [hus, HX.out] at hq2
    subst hq2
    exact ⟨he, hd', ht⟩)
  have HXL := Lib.hid hXl
  clear hw1 hset hLL hZ hk hys N1 J1 B1 hj hok hm h hI hpl hpo hXl
  go_enter Tryd.func21, Tryd.ntmps21
  go_upto_region 4 with fail
  first | rw [HS.out] | (rw [HW1.out]; rw [HS.out])
  obtain ⟨V, hV⟩ : ∃ V, V = w.alloc (.cells L.toArray 50) := ⟨_, rfl⟩
  rw [← hV] at B2 J2 D2 N2 ⊢
  have R2 := block_range N2
  clear hV q0 q1 q2
  have j0 := J2.j.c0
  rcases sync_code s with he1 | he1
  · have GS1 := Lib.hid (fun W (hd : DvAt W I a mk mw s) => GS.out W s (by omega) hd)
    rw [he1] at GS1
    have HE1 := Lib.hid he1
    clear he1
    go_upto_region 10 with (first
      | (refine wpList_load_midV (by rfl) _ _ rfl w.heap.size 0 rfl L R2 Tryd.underlying50 rfl (by rw [HL.out]; kernel_rfl) ?_)
      | (go_at_call 40; (with_reducible refine (GP.out _ B2).mono ?_); rintro e w2 ⟨A2, c2, rfl, hl2, hm2, hr2, hb2⟩; have J3 := J2.below hb2; have D3 := D2.below hb2; clear j0; have j0 := J3.j.c0)
      | (have _t := J3; go_at_call 53; (with_reducible refine (GS1.out _ D3).mono ?_); clear _t; rintro e w3 ⟨rfl, D4, T4⟩; have J4 := J3.turn D3 T4; clear j0))
    have N4 : Block w3 w.heap.size 50 L.toArray := Block.dset D3 T4 (N2.below hb2 N2.lt) (by decide)
    have H4 : Holds w3 w3.heap.size .u8 A2 ys := (D3.holds T4 hr2 (Nat.le_refl _)).more T4.size
    have U4 : TurnsIn (JSet a mk mw j) w w3 := (TurnsIn.ofNew B2).trans ((TurnsIn.ofNew hb2).trans (TurnsIn.jd T4))
    have n0 : w3.cell? ⟨w.heap.size, 0, none⟩ = some (.int .u64 (k + 1)) := (Block.cell N4 0).trans (by simpa using HC0.out)
    have j1 := J4.j.c1
    have j2 := J4.j.c2
    obtain ⟨s1, hs1⟩ : ∃ s1, s.sync.2 = s1 := ⟨_, rfl⟩
    rw [hs1] at D4 hsn
    have HS1 := Lib.hid hs1
    have GZ : Hid (∀ (W : World) (p i : Nat), i < 2 → PartAt W p a i 1 → DvAt W I a mk mw s1 → w.heap.size ≤ W.heap.size → Holds W W.heap.size .u8 A2 ys → Calls Tryd.prog 54 #[.pointer (some ⟨p, 0, none⟩), .int .i64 0, .slice A2 ys.length c2] W (Sec.Leaves I a mk mw W (s1.write i X).2 (.int .i64 (s1.write i X).1))) := Lib.hid (fun W p i hi hp hd hle hh => GW.out W p i A2 c2 s1 hi hp hd hle (by omega) (by omega) (by omega) (by omega) hl2 hm2 hh)
    clear GS1 GW hs1 hr2 D3 J3 hb2 T4 R2 N2 J2 D2 B2 GP HC0
    have hkp : (k + 1) % 2 = 0 ∨ (k + 1) % 2 = 1 := by omega
    obtain ⟨p, i, hpi⟩ : ∃ (p i : Nat), ((k + 1) % 2 = 0 ∧ p = p0 ∧ i = 0) ∨ ((k + 1) % 2 = 1 ∧ p = p1 ∧ i = 1) := by
      rcases hkp with e | e
      · exact ⟨p0, 0, Or.inl ⟨e, rfl, rfl⟩⟩
      · exact ⟨p1, 1, Or.inr ⟨e, rfl, rfl⟩⟩
    have hki : (k + 1) % 2 = i := by rcases hpi with ⟨e, _, rfl⟩ | ⟨e, _, rfl⟩ <;> exact e
    have hPA : PartAt w3 p a i 1 := by
      rcases hpi with ⟨_, rfl, rfl⟩ | ⟨_, rfl, rfl⟩
      · exact J4.p0
      · exact J4.p1
    have hi2 : i < 2 := by omega
    have GZ1 := Lib.hid (GZ.out w3.drew p i hi2 (Block.drewN hPA 1) (D4.below (below_draws (Below.refl _ _) 1)) U4.size H4)
    have hcode := write_code (s := s1) (i := (i : Int)) (xs := X) (by omega) (by omega) (by rw [HXL.out]; omega)
    have hwn := write_near1 s1 i X
    have HW0 : Hid (writeJ s ((k + 1) % 2) X = if (s1.write i X).1 ≠ 0 then s1.write i X else (s1.write i X).2.sync) := Lib.hid (by
      unfold writeJ
      rw [if_neg (by rw [HE1.out]; decide), HS1.out, hki])
    rw [HQ.out] at HW0
    have D4d : DvAt w3.drew I a mk mw s1 := D4.below (below_draws (Below.refl _ _) 1)
    have J4d : JAt w3.drew j a p0 p1 last := J4.below (below_draws (Below.refl _ _) 1)
    have N4d : Block w3.drew w.heap.size 50 L.toArray := Block.drewN N4 1
    have U4d : TurnsIn (JSet a mk mw j) w w3.drew := U4.drewN 1
    obtain ⟨E2, hE2⟩ : ∃ E2, (s1.write i X).1 = E2 := ⟨_, rfl⟩
    obtain ⟨s2, hs2⟩ : ∃ s2, (s1.write i X).2 = s2 := ⟨_, rfl⟩
    have hq2 : s1.write i X = (E2, s2) := Prod.ext hE2 hs2
    rw [hE2, hs2] at GZ1
    rw [hE2] at hcode
    rw [hs2] at hwn
    rw [hq2] at HW0
    have GS2 := Lib.hid (fun W (hd : DvAt W I a mk mw s2) => GS.out W s2 (by omega) hd)
    clear hE2 hs2 hq2 GZ hkp hPA hki GS
    have ht1 : (k + 1).tmod 2 = (k + 1) % 2 := Int.tmod_eq_emod_of_nonneg (by omega)
    rcases hpi with ⟨e, rfl, rfl⟩ | ⟨e, rfl, rfl⟩
    all_goals
      rw [e] at ht1
      go_still_tail 9, (by kernel_rfl)
      change wpList _ _ _ _ _ w3.drew
      clear e ht1 n0 j1 j2 D4 J4 N4 U4 H4
      generalize w3.drew = w4 at *
      rcases hcode with he2 | he2
      case inr =>
        rw [he2] at GZ1 HW0
        have HWJ : Hid (q = (8, s2)) := Lib.hid (by rw [HW0.out, if_pos (show (8 : Int) ≠ 0 by decide)])
        clear he2 HW0
        go_wp2_with (go_at_call 54; (with_reducible refine GZ1.out.mono ?_); rintro e w5 ⟨rfl, D5, T5⟩; have J5 := J4d.turn D4d T5)
        go_ret
        obtain rfl := HWJ.out
        refine ⟨rfl, D5, ?_, U4d.trans (TurnsIn.jd T5)⟩
        rw [if_neg (show ¬ (8 : Int) = 0 by decide)]
        exact J5
      case inl =>
        rw [he2] at GZ1 HW0
        have HWJ : Hid (q = s2.sync) := Lib.hid (by rw [HW0.out, if_neg (show ¬ (0 : Int) ≠ 0 by decide)])
        clear he2 HW0
        rcases sync_code s2 with he3 | he3
        case inr =>
          rw [he3] at GS2
          have HE3 := Lib.hid he3
          clear he3
          go_wp2_with (first
            | (go_at_call 54; (with_reducible refine GZ1.out.mono ?_); rintro e w5 ⟨rfl, D5, T5⟩; have J5 := J4d.turn D4d T5; have j0 := J5.j.c0)
            | (have _t := J5; go_at_call 53; (with_reducible refine (GS2.out _ D5).mono ?_); clear _t; rintro e w6 ⟨rfl, D6, T6⟩; have J6 := J5.turn D5 T6))
          go_ret
          obtain rfl := HWJ.out
          refine ⟨by rw [HE3.out]; rfl, D6, ?_, (U4d.trans (TurnsIn.jd T5)).trans (TurnsIn.jd T6)⟩
          rw [if_neg (by rw [HE3.out]; decide)]
          exact J6
        case inl =>
          rw [he3] at GS2
          have HE3 := Lib.hid he3
          clear he3
          go_wp2_with (first
            | (go_at_call 54; (with_reducible refine GZ1.out.mono ?_); rintro e w5 ⟨rfl, D5, T5⟩; have J5 := J4d.turn D4d T5; have N5 : Block w5 w.heap.size 50 L.toArray := Block.dset D4d T5 N4d (by decide); have j0 := J5.j.c0)
            | (have _t := J5; go_at_call 53; (with_reducible refine (GS2.out _ D5).mono ?_); clear _t; rintro e w6 ⟨rfl, D6, T6⟩; have J6 := J5.turn D5 T6; have R6 : w6.rangeAt w.heap.size 0 L := block_range (Block.dset D5 T6 N5 (by decide)))
            | (have _t := J6; refine wpList_load_midV (by rfl) _ _ rfl w.heap.size 0 rfl L R6 Tryd.underlying50 rfl (by rw [HL.out]; kernel_rfl) ?_)
            | (have _t := J6; refine wpList_store_last rfl _ _ _ rfl J6.j HLL.out HL.out rfl rfl (by kernel_rfl) HO.out ?_; clear _t; intro w7 X7 g7))
          go_ret
          have J7 := J6.stored (by rw [← HLS.out] at X7; exact X7) g7
          have D7 : DvAt w7 I a mk mw s2.sync.2 := D6.out (S := fun b => b = j) (TurnsIn.ofGrown g7 fun b hb => by injection hb with hb; exact hb.symm) (fun e => by have := dv_ne_j D6 J6; exact this.1 e) (fun e => (dv_ne_j D6 J6).2.1 e) (fun e => (dv_ne_j D6 J6).2.2 e) (fun b hb _ cs f hx => by subst hb; exact J6.no_row cs f hx)
          obtain rfl := HWJ.out
          refine ⟨by rw [HE3.out]; rfl, D7, ?_, ((U4d.trans (TurnsIn.jd T5)).trans (TurnsIn.jd T6)).trans (TurnsIn.ofGrown g7 fun b hb => by injection hb with hb; exact Or.inr hb.symm)⟩
          rw [if_pos HE3.out]
          exact J7
  · have GS1 := Lib.hid (fun W (hd : DvAt W I a mk mw s) => GS.out W s (by omega) hd)
    rw [he1] at GS1
    have HWJ : Hid (q = s.sync) := Lib.hid (by rw [← HQ.out]; unfold writeJ; rw [if_pos (by rw [he1]; decide)])
    have HE1 := Lib.hid he1
    clear he1
    go_wp2_with (first
      | (refine wpList_load_midV (by rfl) _ _ rfl w.heap.size 0 rfl L R2 Tryd.underlying50 rfl (by rw [HL.out]; kernel_rfl) ?_)
      | (go_at_call 40; (with_reducible refine (GP.out _ B2).mono ?_); rintro e w2 ⟨A2, c2, rfl, hl2, hm2, hr2, hb2⟩; have J3 := J2.below hb2; have D3 := D2.below hb2; clear j0; have j0 := J3.j.c0)
      | (have _t := J3; go_at_call 53; (with_reducible refine (GS1.out _ D3).mono ?_); clear _t; rintro e w3 ⟨rfl, D4, T4⟩; have J4 := J3.turn D3 T4))
    go_ret
    obtain rfl := HWJ.out
    refine ⟨by rw [HE1.out]; rfl, D4, ?_, (TurnsIn.ofNew B2).trans ((TurnsIn.ofNew hb2).trans (TurnsIn.jd T4))⟩
    rw [if_neg (by rw [HE1.out]; decide)]
    exact J4
end Go.Proofs.YtpnodocjpedcmaaDoor.Jr

namespace Go.Proofs.YtpnodocjpedcmaaDoor.Jr
open Go.ChangeShapes Go.WideShapes Go.ChangeAt Go.RowKit Go.Proofs.YtpnodocjpedcmaaDoor.Kit Go.Proofs.YtpnodocjpedcmaaDoor.Sec
open Go.Proofs.YtpnodocjpedcmaaDoor.Sha (LaidS)
open Go.Proofs.YtpnodocjpedcmaaDoor.Pt (PartAt Lies chunkP On Whole whole_of)

/-- A whole row is loaded, in a region whose callees make memory. -/
theorem qload_row {P : Program} {ops : Array Oper} {o : Oper} {a : Act} {C : World → Prop} {K : Act → Prop} {E : Prop}
    (hw : Region.wanted o (yielded ops a.tmps) = true) (ty : TypeId) (x : Operand) (ho : o.op = .load ty x) (b f : Nat) (hx : a.eval x = .pointer (some ⟨b, f, none⟩)) (cs : List Value) (d : TypeDesc) (hc : ∀ W, C W → W.rangeAt b f cs)
    (hu : P.underlying ty = some d) (hd : d.isRow = true) (hi : (P.info? ty).map (·.size) = some cs.length) (hK : K (a.put o.dst (.agg cs.toArray))) :
    if Region.wanted o (yielded ops a.tmps) = true then o.quiet P a C K else E := by
  rw [if_pos hw]
  refine ⟨.agg cs.toArray, fun W hW => ?_, hK⟩
  unfold Oper.quietAt execOp
  simp only [ho, hx, Instr.loadAt, Instr.sureAddr, Sem.run_bind, Sem.run_pure, Result.andThen_ok, run_loadVar_mid W b f ty cs d (hc W hW) hu hd hi, Oper.quietUpon]
  trivial
theorem qrange {w : World} {b f : Nat} {cs : List Value} (h : w.rangeAt b f cs) : ∀ W, (∃ p : Regrown, W = Go.Sort.grow (redrawn w p.d) p.os) → W.rangeAt b f cs := by
  rintro W ⟨p, rfl⟩ j v hj
  exact cell_regrown (h j v hj) p.d p.os
theorem block_regrown {w : World} {g : Nat} {t : TypeId} {cs : Array Value} (h : Block w g t cs) (d : Nat) (os : Array Obj) : Block (Go.Sort.grow (redrawn w d) os) g t cs := Block.below h (below_regrown w d os) (Block.lt h)

/-! ### records that come in -/
def RecIn (r : Rec) (cs : List Value) : Prop := r.Ok ∧ cs = r.cells
theorem open_recs {H : Type} {enc : TypeId × Value → H} {P : Program} {w : World} {b0 : Nat} {t e : TypeId} {fs : Array Field} (ht : P.underlying t = some (.slice e)) (he : P.underlying e = some (.struct fs)) (hs : shapeB P fs.toList 0 recDs = true) (hc : P.cellsOf e = 44)
    {v : Value} {d : DataW H} {ps : List MemPlace} (hval : Value.okWide P w .any b0 t v) (h : DataW.Trod enc P w 0 (fun _ => true) true t v d ps) (hlt : ∀ x ∈ ps, x.block < w.heap.size) :
    ∃ (A : Option Addr) (cap : Nat) (rs : List Rec), v = .slice A rs.length cap ∧ rs.length ≤ cap ∧ cap ≤ maxLen ∧ HoldsE RecIn 44 w w.heap.size A rs :=
  open_slice_of RecIn 44 ht hc (by omega) (fun _ _ _ h hp => by
    obtain ⟨vs, h1, h2⟩ := read_shape he hs hc h hp
    obtain ⟨r, h3, _, h4⟩ := rec_of h1
    exact ⟨r, h3, h2.trans h4⟩) hval h hlt
theorem recAt {w : World} {B : Nat} {A : Option Addr} {rs : List Rec} (h : HoldsE RecIn 44 w B A rs) {i : Nat} (hi : i < rs.length) :
    ∃ b off : Nat, A = some ⟨b, off, none⟩ ∧ b < B ∧ w.rangeAt b (off + i * 44) rs[i].cells ∧ rs[i].Ok := by
  obtain ⟨b, off, e, hb, hc⟩ := h (by omega)
  obtain ⟨cs, ⟨h1, rfl⟩, h2, h3⟩ := hc i rs[i] (List.getElem?_eq_getElem hi)
  exact ⟨b, off, e, hb, h3, h1⟩
theorem recs_below {w w' : World} {B : Nat} {A : Option Addr} {rs : List Rec} (h : HoldsE RecIn 44 w B A rs) (hb : Below B w w') : HoldsE RecIn 44 w' B A rs :=
  h.keep (fun _ hp => hb.cell hp) (fun _ _ h => h)

/-- == on records tells something. -/
theorem arr_any (xs ys : List Int) (h : xs.length = 32) (h' : ys.length = 32) : ∃ b, ∀ w : World, (Op.equalIn 9999 48 (.agg (xs.map (Value.int .u8)).toArray) (.agg (ys.map (Value.int .u8)).toArray)).run Tryd.prog w = .ok b w := by
  refine ⟨decide (∀ j ∈ List.range xs.length, xs[j]?.getD 0 = ys[j]?.getD 0), fun w => ?_⟩
  have h1 := run_equalIn_array (P := Tryd.prog) (w := w) (t := 48) 9998 (xs.map (Value.int .u8)).toArray (ys.map (Value.int .u8)).toArray (n := xs.length) (e := 5) (by rw [h]; exact Tryd.underlying48) (Option.eq_some_of_isSome (by kernel_rfl))
  have h2 := run_eqItems_ints (P := Tryd.prog) (w := w) (e := 5) (k := .u8) (k' := .u8) 9997 (by kernel_rfl) Tryd.underlying5 (by kernel_rfl) xs ys (List.range xs.length) (fun j hj => by have := List.mem_range.1 hj; omega)
  rw [h2] at h1
  exact h1
set_option maxRecDepth 100000 in
set_option maxHeartbeats 3200000 in
theorem eql_rec (r s : Rec) (h : r.man.length = 32) (h' : s.man.length = 32) : ∃ b, (∀ W, (binOp .eql 50 (.agg r.cells.toArray) (.agg s.cells.toArray)).run Tryd.prog W = .ok (.bool b) W) := by
  match hm : r.man, h, hm' : s.man, h' with
  | [a0, a1, a2, a3, a4, a5, a6, a7, a8, a9, a10, a11, a12, a13, a14, a15, a16, a17, a18, a19, a20, a21, a22, a23, a24, a25, a26, a27, a28, a29, a30, a31], _, [b0, b1, b2, b3, b4, b5, b6, b7, b8, b9, b10, b11, b12, b13, b14, b15, b16, b17, b18, b19, b20, b21, b22, b23, b24, b25, b26, b27, b28, b29, b30, b31], _ =>
    obtain ⟨b, hE⟩ := arr_any [a0, a1, a2, a3, a4, a5, a6, a7, a8, a9, a10, a11, a12, a13, a14, a15, a16, a17, a18, a19, a20, a21, a22, a23, a24, a25, a26, a27, a28, a29, a30, a31] [b0, b1, b2, b3, b4, b5, b6, b7, b8, b9, b10, b11, b12, b13, b14, b15, b16, b17, b18, b19, b20, b21, b22, b23, b24, b25, b26, b27, b28, b29, b30, b31] rfl rfl
    simp only [List.map_cons, List.map_nil] at hE
    unfold Rec.cells
    rw [hm, hm']
    simp only [List.map_cons, List.map_nil, List.cons_append, List.nil_append]
    refine ⟨decide (r.seq = s.seq) && (decide (r.act = s.act) && (decide (r.ver = s.ver) && (decide (r.len = s.len) && (decide (r.st = s.st) && (decide (r.md = s.md) && (b && (decide (r.nv = s.nv) && (decide (r.nl = s.nl) && (decide (r.dn = s.dn) && (decide (r.at_ = s.at_) && (decide (r.blk = s.blk) && decide (r.asz = s.asz)))))))))))), fun W => ?_⟩
    have hE1 := hE W
    clear hm hm' h h' hE
    go_simp
    clear hE1
    obtain ⟨r1, r2, r3, r4, r5, r6, r7, r8, r9, r10, r11, r12, r13⟩ := r
    obtain ⟨s1, s2, s3, s4, s5, s6, s7, s8, s9, s10, s11, s12, s13⟩ := s
    simp only
    by_cases e1 : r1 = s1
    case neg => simp [*]
    by_cases e2 : r2 = s2
    case neg => simp [*]
    by_cases e3 : r3 = s3
    case neg => simp [*]
    by_cases e4 : r4 = s4
    case neg => simp [*]
    by_cases e5 : r5 = s5
    case neg => simp [*]
    by_cases e6 : r6 = s6
    case neg => simp [*]
    cases b
    · simp [*]
    by_cases e8 : r8 = s8
    case neg => simp [*]
    by_cases e9 : r9 = s9
    case neg => simp [*]
    by_cases e10 : r10 = s10
    case neg => simp [*]
    by_cases e11 : r11 = s11
    case neg => simp [*]
    by_cases e12 : r12 = s12
    case neg => simp [*]
    by_cases e13 : r13 = s13
    case neg => simp [*]
    simp [*]
set_option maxRecDepth 100000 in
set_option maxHeartbeats 3200000 in
theorem neq_same (r : Rec) (h : r.man.length = 32) (W : World) : (binOp .neq 50 (.agg r.cells.toArray) (.agg r.cells.toArray)).run Tryd.prog W = .ok (.bool false) W := by
  match hm : r.man, h with
  | [a0, a1, a2, a3, a4, a5, a6, a7, a8, a9, a10, a11, a12, a13, a14, a15, a16, a17, a18, a19, a20, a21, a22, a23, a24, a25, a26, a27, a28, a29, a30, a31], _ =>
    have hE := arr_same [a0, a1, a2, a3, a4, a5, a6, a7, a8, a9, a10, a11, a12, a13, a14, a15, a16, a17, a18, a19, a20, a21, a22, a23, a24, a25, a26, a27, a28, a29, a30, a31] rfl W
    simp only [List.map_cons, List.map_nil] at hE
    unfold Rec.cells
    rw [hm]
    simp only [List.map_cons, List.map_nil, List.cons_append, List.nil_append]
    go_simp

/-! ### a journal of the call's own -/
structure JDev (w0 w : World) (a mk mw j p0 p1 : Nat) (s : Dv) (r : Rec) : Prop where
  d : DvAt w (fun _ => True) a mk mw s
  b : Below w0.heap.size w0 w
  ga : w0.heap.size ≤ a
  gk : w0.heap.size ≤ mk
  gw : w0.heap.size ≤ mw
  gj : w0.heap.size ≤ j
  at_ : JAt w j a p0 p1 r
section
variable {w0 w w' : World} {a mk mw j p0 p1 : Nat} {s : Dv} {r : Rec}
theorem JDev.below (h : JDev w0 w a mk mw j p0 p1 s r) (hb : Below w.heap.size w w') : JDev w0 w' a mk mw j p0 p1 s r :=
  ⟨h.d.below hb, h.b.trans (hb.mono h.b.size), h.ga, h.gk, h.gw, h.gj, h.at_.below hb⟩
theorem JDev.jset (h : JDev w0 w a mk mw j p0 p1 s r) (b : Nat) (hb : b < w0.heap.size) : ¬ JSet a mk mw j b := by
  have := h.ga; have := h.gk; have := h.gw; have := h.gj
  rintro ((rfl | rfl | rfl) | rfl) <;> omega
theorem JDev.wrote (h : JDev w0 w a mk mw j p0 p1 s r) {q : Int × Dv} {t : Rec} {e : Ending} (g : Wrote (fun _ => True) a mk mw j p0 p1 q r t w e w') : e = .returned (.int .i64 q.1) ∧ JDev w0 w' a mk mw j p0 p1 q.2 (if q.1 = 0 then t else r) ∧ TurnsIn (JSet a mk mw j) w w' := by
  obtain ⟨g1, g2, g3, g4⟩ := g
  exact ⟨g1, ⟨g2, h.b.trans (g4.toBelow h.b.size h.jset), h.ga, h.gk, h.gw, h.gj, g3⟩, g4⟩
theorem JDev.turn (h : JDev w0 w a mk mw j p0 p1 s r) {s' : Dv} (hd : DvAt w' (fun _ => True) a mk mw s') (t : TurnsIn (DSet a mk mw) w w') : JDev w0 w' a mk mw j p0 p1 s' r :=
  ⟨hd, h.b.trans (t.toBelow h.b.size fun b hb hx => h.jset b hb (Or.inl hx)), h.ga, h.gk, h.gw, h.gj, h.at_.turn h.d t⟩
/-- Another block stays while the journal turns. -/
theorem JDev.keeps (h : JDev w0 w a mk mw j p0 p1 s r) (t : TurnsIn (JSet a mk mw j) w w') {g : Nat} {ty : TypeId} {cs : Array Value} (X : Block w g ty cs) (h1 : ty ≠ 91) (h2 : ty ≠ 107) : Block w' g ty cs := by
  refine X.out t ?_
  rintro (hx | rfl)
  · exact h.d.not_cells X h1 hx
  · have := h.at_.j
    unfold JBlk Block at this
    unfold Block at X
    rw [this] at X
    injection X with X
    injection X with _ X _
    exact h2 X.symm
end
end Go.Proofs.YtpnodocjpedcmaaDoor.Jr

namespace Go.Proofs.YtpnodocjpedcmaaDoor.Jr
open Go.ChangeShapes Go.WideShapes Go.ChangeAt Go.RowKit Go.Proofs.YtpnodocjpedcmaaDoor.Kit Go.Proofs.YtpnodocjpedcmaaDoor.Sec
open Go.Proofs.YtpnodocjpedcmaaDoor.Sha (LaidS)
open Go.Proofs.YtpnodocjpedcmaaDoor.Pt (PartAt Lies chunkP On Whole whole_of)

def placesV : List Value := [.int .i64 0, .int .i64 1, .int .i64 1, .int .i64 1, .int .i64 0, .int .i64 0, .int .i64 0, .int .i64 0, .int .i64 0, .int .i64 0, .int .i64 0]
set_option maxRecDepth 100000 in
set_option maxHeartbeats 3200000 in
theorem places_any (w : World) : Calls Tryd.prog 17 #[] w fun e w' => e = .returned (.agg placesV.toArray) ∧ Below w.heap.size w w' := by
  have r0 : Block (w.alloc (.cells #[.int .i64 0, .int .i64 0, .int .i64 0, .int .i64 0, .int .i64 0, .int .i64 0, .int .i64 0, .int .i64 0, .int .i64 0, .int .i64 0, .int .i64 0] 45)) w.heap.size 45 #[.int .i64 0, .int .i64 0, .int .i64 0, .int .i64 0, .int .i64 0, .int .i64 0, .int .i64 0, .int .i64 0, .int .i64 0, .int .i64 0, .int .i64 0] := Block.new w _ _
  have hb0 := below_last w (.cells #[.int .i64 0, .int .i64 0, .int .i64 0, .int .i64 0, .int .i64 0, .int .i64 0, .int .i64 0, .int .i64 0, .int .i64 0, .int .i64 0, .int .i64 0] 45)
  go_enter Tryd.func17, Tryd.ntmps17
  go_wp2_with (first
    | (have _t := r0; refine wpList_store_blk rfl _ _ _ rfl (ds := placesV) r0 rfl rfl rfl (by kernel_rfl) (by decide) ?_; clear _t; intro w9 r9 g9))
  refine bodyPost_ret (v := .agg placesV.toArray) (results_cell_row rfl _ _ w.heap.size 45 _ (0, 0) _ rfl r9 Tryd.underlying45 rfl (by kernel_rfl)) rfl ⟨rfl, ?_⟩
  exact hb0.trans (below_of_grown g9 hb0.size fun b hb => by injection hb with hb; omega)

/-- A journal on a device of the call's own is opened. -/
theorem open_dev {w0 w : World} {a mk mw j p0 p1 : Nat} {s : Dv} {r : Rec} (h : JDev w0 w a mk mw j p0 p1 s r) (hc : 2 ≤ s.count) (hoff : s.off = false) (hL : LaidS w0) :
    Calls Tryd.prog 16 #[.pointer (some ⟨a, 0, none⟩), .agg placesV.toArray] w fun e w' => ∃ j' p0' p1', e = .returned (.tuple #[.pointer (some ⟨j', 0, none⟩), .int .i64 0]) ∧ Below w.heap.size w w' ∧ JAt w' j' a p0' p1' (lastF s.read) ∧ JDev w0 w' a mk mw j p0 p1 s r := by
  refine (jopen_any (fun _ => True) a mk mw s 0 0 0 0 0 0 0 w h.d hc (hL.below h.b)).mono ?_
  rintro e w' ⟨hb, he⟩
  rw [if_neg (by rw [hoff]; decide)] at he
  obtain ⟨j', p0', p1', _, he, hj⟩ := he
  exact ⟨j', p0', p1', he, hb, hj, h.below hb⟩
/-- The first journal on a new device. -/
theorem open_new {w0 w : World} {a mk mw : Nat} (h : Dev w0 w a mk mw (Dv.new 128 4)) (hL : LaidS w0) :
    Calls Tryd.prog 16 #[.pointer (some ⟨a, 0, none⟩), .agg placesV.toArray] w fun e w' => ∃ j p0 p1, e = .returned (.tuple #[.pointer (some ⟨j, 0, none⟩), .int .i64 0]) ∧ JDev w0 w' a mk mw j p0 p1 (Dv.new 128 4) rec0 := by
  refine (jopen_any (fun _ => True) a mk mw (Dv.new 128 4) 0 0 0 0 0 0 0 w h.d (by decide) (hL.below h.b)).mono ?_
  rintro e w' ⟨hb, he⟩
  rw [if_neg (by decide)] at he
  obtain ⟨j, p0, p1, hj0, he, hj⟩ := he
  rw [lastF_of (stands_new (by decide) (by decide))] at hj
  have := h.below hb
  exact ⟨j, p0, p1, he, this.d, this.b, this.ga, this.gk, this.gw, Nat.le_trans h.b.size hj0, hj⟩
theorem last_dev {w0 w : World} {a mk mw j p0 p1 : Nat} {s : Dv} {r : Rec} (h : JDev w0 w a mk mw j p0 p1 s r) (hr : r.Ok) :
    Calls Tryd.prog 18 #[.pointer (some ⟨j, 0, none⟩)] w fun e w' => e = .returned (.agg r.cells.toArray) ∧ Below w.heap.size w w' := last_any j a p0 p1 r w h.at_ hr.man

theorem JDev.beside {w0 w : World} {a mk mw j p0 p1 : Nat} {s : Dv} {r : Rec} (h : JDev w0 w a mk mw j p0 p1 s r) {g : Nat} {cs : Array Value} (X : Block w g 50 cs) (hg : w0.heap.size ≤ g) (i : Nat) (u : Value) : JDev w0 (w.setCell ⟨g, i, none⟩ u) a mk mw j p0 p1 s r := by
  have t : TurnsIn (fun b => b = g) w (w.setCell ⟨g, i, none⟩ u) := TurnsIn.setCell (S := fun b => b = g) (p := ⟨g, i, none⟩) (TurnsIn.refl _ w) (Or.inl rfl) u
  have far : ∀ {q : Nat} {ty : TypeId} {ds : Array Value}, Block w q ty ds → ty ≠ 50 → Block (w.setCell ⟨g, i, none⟩ u) q ty ds := by
    intro q ty ds hq hne
    refine Block.far hq ?_ u
    intro e
    have e : q = g := e
    rw [e] at hq
    unfold Block at hq X
    rw [X] at hq
    injection hq with hq
    injection hq with _ hq _
    exact hne hq.symm
  exact ⟨h.d.beside X (by decide) (by decide) t, h.b.setCell hg u, h.ga, h.gk, h.gw, h.gj, ⟨far h.at_.j (by decide), far h.at_.p0 (by decide), far h.at_.p1 (by decide)⟩⟩

/-- Behind n records, k of which were taken. -/
structure KAt (w W : World) (a mk mw j p0 p1 n k : Nat) (s : Dv) (r : Rec) : Prop where
  g : JDev w W a mk mw j p0 p1 s r
  on : On s
  ws : s.waits = []
  st : StandsF s.read r k
  c : s.count = 4
  z : s.size = 128
  o : s.offs = 0
  wr : s.wr ≤ n
  k : k ≤ n
theorem KAt.start {w W : World} {a mk mw j p0 p1 : Nat} (h : JDev w W a mk mw j p0 p1 (Dv.new 128 4) rec0) : KAt w W a mk mw j p0 p1 0 0 (Dv.new 128 4) rec0 :=
  ⟨h, On.new (by decide) (by decide) (by decide) (by decide), rfl, stands_new (by decide) (by decide), rfl, rfl, rfl, Int.le_refl _, Nat.le_refl _⟩
theorem KAt.dev {w W W' : World} {a mk mw j p0 p1 n k : Nat} {s : Dv} {r : Rec} (h : KAt w W a mk mw j p0 p1 n k s r) (g : JDev w W' a mk mw j p0 p1 s r) : KAt w W' a mk mw j p0 p1 n k s r :=
  ⟨g, h.on, h.ws, h.st, h.c, h.z, h.o, h.wr, h.k⟩
theorem KAt.more {w W : World} {a mk mw j p0 p1 n k : Nat} {s : Dv} {r : Rec} (h : KAt w W a mk mw j p0 p1 n k s r) : KAt w W a mk mw j p0 p1 (n + 1) k s r :=
  ⟨h.g, h.on, h.ws, h.st, h.c, h.z, h.o, by have := h.wr; omega, by have := h.k; omega⟩
theorem KAt.last {w W : World} {a mk mw j p0 p1 n k : Nat} {s : Dv} {r : Rec} (h : KAt w W a mk mw j p0 p1 n k s r) : lastF s.read = r := lastF_of h.st
/-- What Write answers to a record that may not be. -/
theorem kwrite_no {w W : World} {a mk mw j p0 p1 n k : Nat} {s : Dv} {r x : Rec} (h : KAt w W a mk mw j p0 p1 n k s r) (hn : n ≤ 100) (hx : x.Ok) (hm : (x.num ((k : Int) + 1)).may = false) (hL : LaidS w) :
    Calls Tryd.prog 21 #[.pointer (some ⟨j, 0, none⟩), .agg x.cells.toArray] W fun e W' => e = .returned (.int .i64 3) ∧ Below W.heap.size W W' := by
  have hs := h.st.seq
  have hk := h.k
  exact jwrite_no j a p0 p1 r x W h.g.at_ hx (by rw [hs]; omega) (by rw [hs]; exact hm) (hL.below h.g.b)
/-- What Write does to one that may be. -/
theorem kwrite_yes {w W : World} {a mk mw j p0 p1 n k : Nat} {s : Dv} {r x : Rec} (h : KAt w W a mk mw j p0 p1 n k s r) (hn : n ≤ 100) (hx : x.Ok) (hm : (x.num ((k : Int) + 1)).may = true) (hL : LaidS w) :
    Calls Tryd.prog 21 #[.pointer (some ⟨j, 0, none⟩), .agg x.cells.toArray] W fun e W' => e = .returned (.int .i64 0) ∧ TurnsIn (JSet a mk mw j) W W' ∧ ∃ s', KAt w W' a mk mw j p0 p1 (n + 1) (k + 1) s' (x.num ((k : Int) + 1)) := by
  have hs := h.st.seq
  have hk := h.k
  have hwr := h.wr
  have hmod : ((k : Int) + 1) % 2 = (((k + 1) % 2 : Nat) : Int) := by omega
  have hpos := Nat.mod_lt (k + 1) (show 0 < 2 by omega)
  have hw := jwrite_yes (fun _ => True) j a p0 p1 mk mw s r x W h.g.at_ h.g.d (fun _ _ => trivial) hx h.st.ok.man (by rw [hs]; omega) (by rw [hs]; exact hm) (by rw [h.c]; omega) (by rw [h.o]; omega) (by omega) (hL.below h.g.b)
  rw [hs, hmod] at hw
  have hon := writeJ_on h.on h.ws (i := (((k + 1) % 2 : Nat) : Int)) (xs := chunkP s.size (x.num ((k : Int) + 1)).putL 0) (by omega) (by rw [h.c]; omega) (Pt.chunkP_length _ _ _)
  have hok : (x.num ((k : Int) + 1)).Ok := Rec.num_ok hx (by omega) (by omega)
  have hst := keeps_next h.on h.ws h.st (by rw [h.c]; omega) hok hm (show (k : Int) + 1 = ((k + 1 : Nat) : Int) by omega)
  refine hw.mono ?_
  rintro e W' hw'
  generalize writeJ s (((k + 1) % 2 : Nat) : Int) (chunkP s.size (x.num ((k : Int) + 1)).putL 0) = q at *
  obtain ⟨h1, h2, h3⟩ := h.g.wrote hw'
  obtain ⟨o1, o2, o3, o4, o5, o6, o7, o8⟩ := hon
  rw [if_pos o1] at h2
  rw [o1] at h1
  exact ⟨h1, h3, q.2, h2, o2, o3, hst, by rw [o6, h.c], by rw [o5, h.z], by rw [o7, h.o], by rw [o8]; omega, by omega⟩
end Go.Proofs.YtpnodocjpedcmaaDoor.Jr

namespace Go.Proofs.YtpnodocjpedcmaaDoor.Jr
open Go.ChangeShapes Go.WideShapes Go.ChangeAt Go.RowKit Go.Proofs.YtpnodocjpedcmaaDoor.Kit
open Go.Proofs.YtpnodocjpedcmaaDoor.Sec (Dv RDv GivesS rread_any)
open Go.Proofs.YtpnodocjpedcmaaDoor.Sha (LaidS)
open Go.Proofs.YtpnodocjpedcmaaDoor.Pt (Whole whole_of)

theorem holds_row {w : World} {t : TypeId} {xs : List Int} (ho : Octets xs) (c : Nat) (m : Nat × Nat) : Holds (w.alloc (.cells (bytesRow (strOfNums xs) c) t m)) (w.alloc (.cells (bytesRow (strOfNums xs) c) t m)).heap.size .u8 (some ⟨w.heap.size, 0, none⟩) xs := by
  intro _
  refine ⟨w.heap.size, 0, rfl, by simp, fun j hj => ?_⟩
  have h1 := World.cell?_alloc_mark w (bytesRow (strOfNums xs) c) t m (0 + j)
  rw [h1]
  have hs : j < (strOfNums xs).data.size := by simpa [strOfNums] using hj
  rw [Nat.zero_add, bytesRow_at _ _ _ hs]
  have hx := ho (xs[j]) (List.getElem_mem hj)
  have e : (strOfNums xs).data[j] = UInt8.ofNat xs[j].toNat := by simp [strOfNums]
  rw [e, List.getD, List.getElem?_eq_getElem hj]
  have key : ∀ z : Int, 0 ≤ z → z ≤ 255 → ((UInt8.ofNat z.toNat).toNat : Int) = z := by
    intro z h0 h1
    rw [UInt8.toNat_ofNat', Nat.mod_eq_of_lt (by omega)]
    omega
  rw [key _ hx.1 hx.2]
  rfl
/-- '[]byte(s)'. -/
theorem wpList_bytes_of {P : Program} {w : World} {ops : Array Oper} {rest : List Oper} {o : Oper} {a : Act} {Q : Exit → Act → World → Prop} (hgd : o.guard = none) (src dst e : TypeId) (x : Operand) (ho : o.op = .convert src dst x)
    {xs : List Int} (hx : a.eval x = .string (strOfNums xs)) (hs : P.underlying src = some .string) (hd : P.underlying dst = some (.slice e)) (he : P.underlying e = some (.int .u8)) (hoc : Octets xs) (hl : xs.length ≤ maxLen)
    (hK : ∀ A c w', xs.length ≤ c → c ≤ maxLen → Holds w' w'.heap.size .u8 A xs → Below w.heap.size w w' → wpList P ops Q rest (a.put o.dst (.slice A xs.length c)) w') : wpList P ops Q (o :: rest) a w := by
  refine wpList_plain hgd fun K hK' => ?_
  unfold Oper.wp
  simp only [execOp, ho, Sem.run_bind, Sem.run_pure]
  rw [hx]
  have hr := run_bytes_of_string (P := P) w src dst e (strOfNums xs) hs hd he
  rw [hr]
  rw [strOfNums_size]
  have hc1 := grownCap_ge w xs.length 0 e
  have hc2 := grownCap_le_maxLen w xs.length 0 e hl
  generalize grownCap w xs.length 0 e = c at *
  refine hK' _ _ (hK _ c _ hc1 hc2 (holds_row (w := w.drew) hoc c _) ?_)
  exact (below_draws (Below.refl _ _) 1).alloc (Nat.le_refl _) _

def uptoR (f : Int → List Int × Int) : Nat → Rec × Bool
  | 0 => (rec0, false)
  | n + 1 => stepR f (uptoR f n) n
theorem uptoR_ok {s : Dv} (hw : Whole s) : ∀ n, (uptoR s.read n).1.Ok
  | 0 => rec0_ok
  | n + 1 => by
    show (stepR s.read (uptoR s.read n) n).1.Ok
    unfold stepR
    split
    · rename_i h
      exact getV_ok (hw n (s.read n).1 (Prod.ext rfl h.1)).2
    · exact uptoR_ok hw n
theorem uptoR_last {s : Dv} (hs : 128 ≤ s.size) (hw : Whole s) : (uptoR s.read 2).1 = lastF s.read :=
  lastR_is (fun h => by have := (hw 0 (s.read 0).1 (Prod.ext rfl h)).1; omega) (fun h => by have := (hw 1 (s.read 1).1 (Prod.ext rfl h)).1; omega)
theorem cases_ge (E q u : Int) (f : Bool) (n : Nat) (m : Int) (hm1 : m = n) : (E ≠ 0 ∧ (E == 0) = false) ∨ (E = 0 ∧ (E == 0) = true ∧ ((q % 2 ≠ n ∧ (q % 2 == m) = false) ∨ (q % 2 = n ∧ (q % 2 == m) = true ∧ (f = false ∨ (f = true ∧ ((u ≤ q ∧ decide (u ≤ q) = true) ∨ (¬ u ≤ q ∧ decide (u ≤ q) = false))))))) := by
  by_cases a1 : E = 0
  · refine Or.inr ⟨a1, by simp [a1], ?_⟩
    by_cases a2 : q % 2 = n
    · refine Or.inr ⟨a2, by rw [hm1]; simp [a2], ?_⟩
      cases f
      · exact Or.inl rfl
      · refine Or.inr ⟨rfl, ?_⟩
        by_cases a3 : u ≤ q
        · exact Or.inl ⟨a3, by simpa using a3⟩
        · exact Or.inr ⟨a3, by simpa using a3⟩
    · exact Or.inl ⟨a2, by rw [hm1]; simpa using a2⟩
  · exact Or.inl ⟨a1, by simpa using a1⟩

/-- Between the sectors that the document reads. -/
structure RGo (w W : World) (dc : Array Value) (r : Rec) : Prop where
  x : Block W w.heap.size 31 dc
  z : Block W (w.heap.size + 1) 50 rec0.cells.toArray
  l : Block W (w.heap.size + 1 + 1) 50 r.cells.toArray
  b : Below w.heap.size w W
theorem RGo.below {w W W' : World} {dc : Array Value} {r : Rec} (h : RGo w W dc r) (hb : Below W.heap.size W W') : RGo w W' dc r :=
  ⟨h.x.below hb h.x.lt, Block.below h.z hb (Block.lt h.z), Block.below h.l hb (Block.lt h.l), h.b.trans (hb.mono h.b.size)⟩
theorem RGo.stored {w W W' : World} {dc : Array Value} {r t : Rec} (h : RGo w W dc r) (h1 : Block W' (w.heap.size + 1 + 1) 50 t.cells.toArray) (g : W.grownBy W' (some (w.heap.size + 1 + 1))) : RGo w W' dc t :=
  ⟨h.x.grown g (by intro e; injection e with e; omega), Block.grown h.z g (by intro e; injection e with e; omega), h1, h.b.trans (below_of_grown g h.b.size fun b hb => by injection hb with hb; omega)⟩
theorem RGo.start (w : World) (dc : Array Value) : RGo w (((w.alloc (.cells dc 31)).alloc (.cells rec0.cells.toArray 50)).alloc (.cells rec0.cells.toArray 50)) dc rec0 := by
  refine ⟨((Block.new w _ _).alloc _).alloc _, ?_, ?_, (((Below.refl _ _).alloc (Nat.le_refl _) _).alloc (by simp) _).alloc (by simp; omega) _⟩
  · have := (Block.new (w.alloc (.cells dc 31)) 50 rec0.cells.toArray).alloc (.cells rec0.cells.toArray 50)
    rwa [show (w.alloc (.cells dc 31)).heap.size = w.heap.size + 1 by simp] at this
  · have := Block.new ((w.alloc (.cells dc 31)).alloc (.cells rec0.cells.toArray 50)) 50 rec0.cells.toArray
    rwa [show ((w.alloc (.cells dc 31)).alloc (.cells rec0.cells.toArray 50)).heap.size = w.heap.size + 1 + 1 by simp] at this

set_option maxRecDepth 100000 in
set_option maxHeartbeats 12800000 in
/-- The document's last record. -/
theorem rlast_any (v : Value) (s : Dv) (w : World) (h : RDv w v s) (hok : s.Ok) (hw : Whole s) (hz : s.size ≤ 1000) :
    Calls Tryd.prog 19 #[v] w fun e w' => e = .returned (.agg (lastF s.read).cells.toArray) ∧ Below w.heap.size w w' := by
  have hR := fun W (hb : Below w.heap.size w W) i => rread_any v s i W (h.below hb) hok
  have hs := hok.s1
  have hs2 := hok.s2
  have hlast := uptoR_last hs hw
  obtain ⟨Ak, ck, Aw, cw, rfl, _⟩ := h
  have HDC : Hid (∃ l : List Value, l.length = 8 ∧ (Sec.dCells Ak ck Aw cw s) = l.toArray) := Lib.hid ⟨_, rfl, rfl⟩
  obtain ⟨dl, hdl, hde⟩ := HDC.out
  rw [hde] at hR ⊢
  have HD := Lib.hid hdl
  have HR := Lib.hid hR
  have HLA := Lib.hid hlast
  have S0 := RGo.start w dl.toArray
  have HB := Lib.hid zero_build
  have HZ := Lib.hid (show rec0.cells.length = 44 from rec0.cells_length rfl)
  have HZO := Lib.hid rec0.cells_one
  clear HDC hdl hde hR hlast
  go_enter Tryd.func19, Tryd.ntmps19
  go_wp2_with (first
    | (refine wpList_build_known rfl _ _ rfl (.agg rec0.cells.toArray) ?_ ?_; (intro W; have hw9 := HB.out W; simpa [Act.eval] using hw9))
    | (have _t := S0; refine wpList_store_blk rfl _ _ _ rfl (ds := rec0.cells) S0.l rfl rfl (by simp) (by rw [HZ.out]; kernel_rfl) HZO.out ?_; clear _t; intro w9 N9 g9; have S1 := S0.stored N9 g9; clear S0 N9 g9))
  go_loopw [5, 4] (fun i f W => ∃ n : Nat, n ≤ 2 ∧ i = .int .i64 n ∧ f = .bool (uptoR s.read n).2 ∧ RGo w W dl.toArray (uptoR s.read n).1) (fun i _ _ => (2 - intOf i).toNat)
  case atStart => exact ⟨0, by omega, rfl, rfl, S1⟩
  case round =>
    obtain ⟨n, hn, rfl, rfl, S⟩ := hrel
    clear S1
    by_cases hlt : n < 2
    case neg =>
      obtain rfl : n = 2 := by omega
      have d1 : decide (((2 : Nat) : Int) < 2) = false := by decide
      have hro := uptoR_ok hw 2
      rw [HLA.out] at S hro
      have HL := Lib.hid ((lastF s.read).cells_length hro.man)
      have HO := Lib.hid (lastF s.read).cells_one
      have R := block_range S.l
      have Z := S.z
      have B := S.b
      clear hro S
      obtain ⟨L, hL⟩ : ∃ L, (lastF s.read).cells = L := ⟨_, rfl⟩
      rw [hL] at HL HO R
      have HLE := Lib.hid hL
      clear hL
      go_wp2_with (first
        | (refine wpList_load_midV (by rfl) _ _ rfl (w.heap.size + 1 + 1) 0 rfl L R Tryd.underlying50 rfl (by rw [HL.out]; kernel_rfl) ?_)
        | (have _t := Z; refine wpList_store_blk rfl _ _ _ rfl (ds := L) Z rfl rfl (by rw [HL.out]; rfl) (by rw [HL.out]; kernel_rfl) HO.out ?_; clear _t; intro w9 r9 g9))
      refine bodyPost_ret (v := .agg L.toArray) (results_cell_row rfl _ _ (w.heap.size + 1) 50 _ (0, 0) _ rfl r9 Tryd.underlying50 rfl (by rw [show L.toArray.size = 44 from HL.out]; kernel_rfl)) rfl ⟨by rw [HLE.out], ?_⟩
      exact B.trans (below_of_grown g9 B.size fun b hb => by injection hb with hb; omega)
    case pos =>
      have hro := uptoR_ok hw n
      have HX9 := Lib.hid (HR.out wr S.b n)
      obtain ⟨m, hmn⟩ : ∃ m : Int, (n = 0 ∧ m = 0) ∨ (n = 1 ∧ m = 1) := by
        have : n = 0 ∨ n = 1 := by omega
        rcases this with e | e
        · exact ⟨0, Or.inl ⟨e, rfl⟩⟩
        · exact ⟨1, Or.inr ⟨e, rfl⟩⟩
      have hm1 : m = n := by rcases hmn with ⟨rfl, rfl⟩ | ⟨rfl, rfl⟩ <;> rfl
      by_cases he : (s.read n).2 = 0
      case neg =>
        have HY : Hid (uptoR s.read (n + 1) = uptoR s.read n) := Lib.hid (by
          show stepR s.read (uptoR s.read n) n = _
          unfold stepR
          rw [if_neg (fun c => he c.1)])
        have e1 : ((s.read n).2 != 0) = true := by rw [bne_iff_ne]; exact he
        have RD := block_range (L := dl) S.x
        have HS := Lib.hid S
        clear S hm1 he hro
        rcases hmn with ⟨rfl, rfl⟩ | ⟨rfl, rfl⟩
        all_goals
          generalize (s.read _).2 = E at *
          generalize (s.read _).1 = xs at *
          go_wp2_with (first
            | (refine wpList_load_midV (by rfl) _ _ rfl w.heap.size 0 rfl dl RD Tryd.underlying31 rfl (by rw [HD.out]; kernel_rfl) ?_)
            | (go_at_call 51; refine HX9.out.mono ?_; rintro e w1 ⟨rfl, hb1⟩; have S1 := HS.out.below hb1))
          go_roundw
          case rel => first | (refine ⟨0 + 1, by omega, by go_num, ?_, ?_⟩ <;> rw [HY.out]; exact S1) | (refine ⟨1 + 1, by omega, by go_num, ?_, ?_⟩ <;> rw [HY.out]; exact S1)
          case measure => simp [intOf] <;> omega
      case pos =>
        obtain ⟨hxl, hxo⟩ := hw n (s.read n).1 (Prod.ext rfl he)
        have hok9 := getV_ok hxo
        have HY1 : Hid (((getE (s.read n).1 = 0 ∧ (getV (s.read n).1).seq % 2 = n) ∧ ((uptoR s.read n).2 = false ∨ (uptoR s.read n).1.seq ≤ (getV (s.read n).1).seq)) → uptoR s.read (n + 1) = (getV (s.read n).1, true)) := Lib.hid (fun c => by
          show stepR s.read (uptoR s.read n) n = _
          unfold stepR
          rw [if_pos ⟨he, c.1.1, c.1.2, c.2⟩])
        have HY2 : Hid (¬ ((getE (s.read n).1 = 0 ∧ (getV (s.read n).1).seq % 2 = n) ∧ ((uptoR s.read n).2 = false ∨ (uptoR s.read n).1.seq ≤ (getV (s.read n).1).seq)) → uptoR s.read (n + 1) = ((uptoR s.read n).1, (uptoR s.read n).2)) := Lib.hid (fun c => by
          show stepR s.read (uptoR s.read n) n = _
          unfold stepR
          rw [if_neg (fun x => c ⟨⟨x.2.1, x.2.2.1⟩, x.2.2.2⟩)])
        have GG := Lib.hid (fun W A c h1 h2 h3 => rjget_any A (s.read n).1 c W h1 h2 (by omega) hxo h3)
        have HL := Lib.hid ((getV (s.read n).1).cells_length hok9.man)
        have HO := Lib.hid (getV (s.read n).1).cells_one
        have HC0 : Hid ((getV (s.read n).1).cells[0]? = some (.int .u64 (getV (s.read n).1).seq)) := Lib.hid rfl
        have HU0 : Hid ((uptoR s.read n).1.cells[0]? = some (.int .u64 (uptoR s.read n).1.seq)) := Lib.hid rfl
        have hq := hok9.seq
        have hu := hro.seq
        have HUL := Lib.hid ((uptoR s.read n).1.cells_length hro.man)
        have HM1 := Lib.hid hm1
        have RD := block_range (L := dl) S.x
        have HS := Lib.hid S
        have HXO := Lib.hid hxo
        have hmx : (s.read n).1.length ≤ maxLen := by unfold maxLen; omega
        have HMX := Lib.hid hmx
        rw [he] at HX9
        clear S hm1 he hro hok9 hxo hmx hxl
        generalize (uptoR s.read n).1 = l at *
        generalize (uptoR s.read n).2 = f at *
        generalize getV (s.read n).1 = r at *
        generalize getE (s.read n).1 = E at *
        generalize (s.read n).1 = xs at *
        rcases hmn with ⟨rfl, rfl⟩ | ⟨rfl, rfl⟩
        all_goals
          go_upto_region 9 with (first
            | (refine wpList_load_midV (by rfl) _ _ rfl w.heap.size 0 rfl dl RD Tryd.underlying31 rfl (by rw [HD.out]; kernel_rfl) ?_)
            | (go_at_call 51; refine HX9.out.mono ?_; rintro e w1 ⟨rfl, hb1⟩; have S1 := HS.out.below hb1)
            | (have _t := S1; refine wpList_bytes_of rfl _ _ 5 _ rfl (xs := xs) rfl Tryd.underlying9 Tryd.underlying22 Tryd.underlying5 HXO.out HMX.out ?_; clear _t; intro A2 c2 w2 k1 k2 k3 hb2; have S2 := S1.below hb2)
            | (have _t := S2; go_at_call 52; (with_reducible refine (GG.out _ A2 c2 k1 k2 k3).mono ?_); clear _t; rintro e w3 ⟨rfl, hb3⟩; have S3 := S2.below hb3)
            | (have _t := S3; refine wpList_store_blk rfl _ _ _ rfl (ds := r.cells) (Block.new w3 50 rec0.cells.toArray) rfl rfl (by rw [HL.out]; rfl) (by rw [HL.out]; kernel_rfl) HO.out ?_; clear _t; intro w6 N6 g6; have S6 := S3.below ((below_last w3 _).trans (below_of_grown g6 (below_last w3 _).size fun b hb => by injection hb with hb; omega))))
          have n0 : w6.cell? ⟨w3.heap.size, 0, none⟩ = some (.int .u64 r.seq) := (Block.cell N6 0).trans (by simpa using HC0.out)
          have n3 : w6.cell? ⟨w.heap.size + 1 + 1, 0, none⟩ = some (.int .u64 l.seq) := (Block.cell S6.l 0).trans (by simpa using HU0.out)
          have hmm : r.seq.tmod 2 = r.seq % 2 := Int.tmod_eq_emod_of_nonneg (by omega)
          have hne : w3.heap.size ≠ w.heap.size + 1 + 1 := by have := Block.lt S3.l; omega
          have SW6 := Lib.hid S6
          have RN6 := block_range N6
          clear g6 S6 N6 S3 S2 S1 hb1 hb2 hb3 HC0 HU0 RD HX9 GG k1 k2 k3
          generalize r.seq = q at *
          generalize l.seq = u at *
          have hcs := cases_ge E q u f _ _ HM1.out
          clear HM1
          have hw0 : IntKind.u64.wrap 0 = 0 := by decide
          have hw1 : IntKind.u64.wrap 1 = 1 := by decide
          rcases hcs with ⟨b1, e1⟩ | ⟨b1, e1, ⟨b2, e2⟩ | ⟨b2, e2, b3 | ⟨b3, ⟨b4, e4⟩ | ⟨b4, e4⟩⟩⟩⟩
          case' inl => have HY := Lib.hid (HY2.out (fun c => b1 c.1.1))
          case' inr.inl => have HY := Lib.hid (HY2.out (fun c => b2 c.1.2))
          case' inr.inr.inl => have HY := Lib.hid (HY1.out ⟨⟨b1, b2⟩, Or.inl b3⟩); subst b3
          case' inr.inr.inr.inl => have HY := Lib.hid (HY1.out ⟨⟨b1, b2⟩, Or.inr b4⟩); subst b3
          case' inr.inr.inr.inr => have HY := Lib.hid (HY2.out (fun c => c.2.elim (fun c => absurd (b3.symm.trans c) (by decide)) b4)); subst b3
          all_goals
            first
              | clear b1 b2 b4
              | clear b1 b2
              | clear b1
            clear HY1 HY2
            have SW := SW6.out
            go_wp2_with (first
              | (refine wpList_load_midV (by rfl) _ _ rfl w3.heap.size 0 rfl r.cells RN6 Tryd.underlying50 rfl (by rw [HL.out]; kernel_rfl) ?_)
              | (have _t := SW; refine wpList_store_blk rfl _ _ _ rfl (ds := r.cells) SW.l rfl rfl (by rw [HL.out]; exact HUL.out.symm) (by rw [HL.out]; kernel_rfl) HO.out ?_; clear _t; intro w7 N7 g7; have SE := SW.stored N7 g7; clear N7 g7 SW))
            first
              | (have SF := SE; clear SE)
              | (have SF := SW; clear SW)
            go_roundw
            case rel => first | (refine ⟨0 + 1, by omega, by go_num, ?_, ?_⟩ <;> rw [HY.out]; exact SF) | (refine ⟨1 + 1, by omega, by go_num, ?_, ?_⟩ <;> rw [HY.out]; exact SF)
            case measure => simp [intOf] <;> omega
end Go.Proofs.YtpnodocjpedcmaaDoor.Jr

namespace Go.Proofs.YtpnodocjpedcmaaDoor.Im
open Go.ChangeShapes Go.WideShapes Go.ChangeAt Go.RowKit Go.Proofs.YtpnodocjpedcmaaDoor.Kit Go.Proofs.YtpnodocjpedcmaaDoor.Pt
open Go.Proofs.YtpnodocjpedcmaaDoor.Sec (Dv RDv dCells GivesS GivesED)
open Go.Proofs.YtpnodocjpedcmaaDoor.Sha (sumL sumL_length)
open Go.Proofs.YtpnodocjpedcmaaDoor.Jr (wpList_bytes_of)

theorem build_zeros32 (w : World) : (Instr.build 47 #[]).run Tryd.prog w = .ok (arrV .u8 zeros32) w := by kernel_rfl

theorem rgo_res {w W : World} {s : Dv} {Ak Aw : Option Addr} {ck cw : Nat} {S B sl : Int} (h : RGo w W s Ak ck Aw cw S B sl) (o : Obj) : RGo w (W.alloc o) s Ak ck Aw cw S B sl := h.below ((Below.refl _ _).alloc (Nat.le_refl _) _)
theorem rgo_fill {w W W' : World} {g : Nat} (h : Below w.heap.size w W) (hg : w.heap.size ≤ g) (g9 : W.grownBy W' (some g)) : Below w.heap.size w W' := h.trans (below_of_grown g9 h.size fun b hb => by injection hb with hb; omega)

set_option maxRecDepth 100000 in
set_option maxHeartbeats 3200000 in
theorem rsum_no (v : Value) (s : Dv) (S B sl i n : Int) (w : World) (h : RDv w v s) (hL : LayOk S B sl s) (hn : ¬ (0 ≤ n ∧ n ≤ B * sl)) :
    Calls Tryd.prog 62 #[v, .agg #[.int .i64 S, .int .i64 B, .int .i64 sl], .int .u8 i, .int .i64 n] w fun e w' => e = .returned (.tuple #[arrV .u8 zeros32, .int .i64 5]) ∧ Below w.heap.size w w' := by
  obtain ⟨hS, hB, hs, hdd, hq, h0, h1, h2, h3⟩ := hL.facts
  obtain ⟨Ak, ck, Aw, cw, rfl, hr⟩ := h
  have G3 : RGo w _ s Ak ck Aw cw S B sl := RGo.start ⟨Ak, ck, Aw, cw, rfl, hr⟩
  obtain ⟨C, hC⟩ : ∃ C, B * sl = C := ⟨_, rfl⟩
  have hw : IntKind.i64.wrap (B * sl) = C := by rw [hC]; exact IntWalk.i64_in _ (by omega)
  rw [hC] at hn
  have Hz := Lib.hid (show zeros32.length = 32 from rfl)
  have hBz := Lib.hid build_zeros32
  generalize zeros32 = ys at *
  have hd9 : decide (n < 0) = true ∨ (decide (n < 0) = false ∧ decide (C < n) = true) := by
    simp only [decide_eq_true_eq, decide_eq_false_iff_not]
    omega
  have HG := Lib.hid G3
  clear hr hL hn G3 hS hB hs hdd hq h0 h1 h2 h3 hC
  unfold dCells at HG ⊢
  rcases hd9 with e1 | ⟨e1, e2⟩
  all_goals
    go_enter Tryd.func62, Tryd.ntmps62
    go_upto_region 1 with fail
    have hz : ((w.alloc (.cells #[.int .i64 s.size, .int .i64 s.count, .slice Ak s.kept.length ck, .slice Aw s.waits.length cw, .bool s.off, .int .i64 s.offs, .int .i64 s.fuse, .int .u64 s.wr] 31)).alloc (.cells #[.int .i64 S, .int .i64 B, .int .i64 sl] 61)).heap.size = w.heap.size + 1 + 1 := by simp
    generalize (w.alloc _).alloc _ = w3 at *
    have r4 : Arr (w3.alloc (.cells #[.int .u8 0, .int .u8 0, .int .u8 0, .int .u8 0, .int .u8 0, .int .u8 0, .int .u8 0, .int .u8 0, .int .u8 0, .int .u8 0, .int .u8 0, .int .u8 0, .int .u8 0, .int .u8 0, .int .u8 0, .int .u8 0, .int .u8 0, .int .u8 0, .int .u8 0, .int .u8 0, .int .u8 0, .int .u8 0, .int .u8 0, .int .u8 0, .int .u8 0, .int .u8 0, .int .u8 0, .int .u8 0, .int .u8 0, .int .u8 0, .int .u8 0, .int .u8 0] 47)) w3.heap.size 47 .u8 (List.replicate 32 0) := res_new w3 47
    have G4 := rgo_res HG.out (.cells #[.int .u8 0, .int .u8 0, .int .u8 0, .int .u8 0, .int .u8 0, .int .u8 0, .int .u8 0, .int .u8 0, .int .u8 0, .int .u8 0, .int .u8 0, .int .u8 0, .int .u8 0, .int .u8 0, .int .u8 0, .int .u8 0, .int .u8 0, .int .u8 0, .int .u8 0, .int .u8 0, .int .u8 0, .int .u8 0, .int .u8 0, .int .u8 0, .int .u8 0, .int .u8 0, .int .u8 0, .int .u8 0, .int .u8 0, .int .u8 0, .int .u8 0, .int .u8 0] 47)
    rw [hz] at r4
    generalize w3.alloc (.cells #[.int .u8 0, .int .u8 0, .int .u8 0, .int .u8 0, .int .u8 0, .int .u8 0, .int .u8 0, .int .u8 0, .int .u8 0, .int .u8 0, .int .u8 0, .int .u8 0, .int .u8 0, .int .u8 0, .int .u8 0, .int .u8 0, .int .u8 0, .int .u8 0, .int .u8 0, .int .u8 0, .int .u8 0, .int .u8 0, .int .u8 0, .int .u8 0, .int .u8 0, .int .u8 0, .int .u8 0, .int .u8 0, .int .u8 0, .int .u8 0, .int .u8 0, .int .u8 0] 47) = w4 at *
    have c1 : w4.cell? ⟨w.heap.size + 1, 1, none⟩ = some (.int .i64 B) := G4.y.cell 1
    have c2 : w4.cell? ⟨w.heap.size + 1, 2, none⟩ = some (.int .i64 sl) := G4.y.cell 2
    have b4 := G4.b
    clear G4 hz HG
    go_wp2_with (first
      | (refine wpList_build_zeros rfl _ _ rfl (arrV .u8 ys) (fun W => by simpa using hBz.out W) ?_)
      | (have _t := r4; refine wpList_store_arr rfl _ _ _ rfl (ys := ys) r4 rfl rfl (by rw [Hz.out]; rfl) (by rw [Hz.out]; kernel_rfl) ?_; clear _t; intro w9 r9 g9))
    refine bodyPost_ret (v := .tuple #[arrV .u8 ys, .int .i64 5]) (results_row_tmp rfl _ _ (w.heap.size + 1 + 1) 47 _ (0, 0) _ rfl r9 _ rfl Tryd.underlying47 rfl (by rw [show (ys.map (Value.int .u8)).toArray.size = 32 by simp [Hz.out]]; kernel_rfl)) rfl ⟨rfl, ?_⟩
    exact rgo_fill b4 (by omega) g9

set_option maxRecDepth 100000 in
set_option maxHeartbeats 3200000 in
theorem rsum_yes (v : Value) (s : Dv) (S B sl i : Int) (n : Nat) (w : World) (h : RDv w v s) (hok : s.Ok) (hwh : Whole s) (hL : LayOk S B sl s) (hn : (n : Int) ≤ B * sl) :
    Calls Tryd.prog 62 #[v, .agg #[.int .i64 S, .int .i64 B, .int .i64 sl], .int .u8 i, .int .i64 n] w fun e w' => ∃ r, ReadsP s (slotF S B sl i) 0 n r ∧ e = .returned (.tuple #[arrV .u8 (sumOf r), .int .i64 r.2]) ∧ Below w.heap.size w w' := by
  obtain ⟨hS, hB, hs, hdd, hq, h0, h1, h2, h3⟩ := hL.facts
  have GL := Lib.hid (fun W => rslot_any S B sl i W hL.m)
  have GR : Hid (∀ v W, RDv W v s → Calls Tryd.prog 87 #[v, .agg #[.int .i64 (slotF S B sl i), .int .i64 (sl * (B / S))], .int .i64 0, .int .i64 n] W fun e w' => ∃ r, ReadsP s (slotF S B sl i) 0 n r ∧ GivesS r.1 r.2 W e w') := Lib.hid (fun v W h => by
    refine (rpread_any v s _ _ _ 0 n W h hok hwh (hL.lies i) (by omega)).mono ?_
    rintro e w' ⟨r, hr, hg⟩
    exact ⟨r, pread_in (a := 0) (by exact hr) (by omega), hg⟩)
  obtain ⟨Ak, ck, Aw, cw, rfl, hr⟩ := h
  have G3 : RGo w _ s Ak ck Aw cw S B sl := RGo.start ⟨Ak, ck, Aw, cw, rfl, hr⟩
  obtain ⟨C, hC⟩ : ∃ C, B * sl = C := ⟨_, rfl⟩
  have hw : IntKind.i64.wrap (B * sl) = C := by rw [hC]; exact IntWalk.i64_in _ (by omega)
  rw [hC] at hn h1
  have Hz := Lib.hid (show zeros32.length = 32 from rfl)
  have hBz := Lib.hid build_zeros32
  have e1 : decide ((n : Int) < 0) = false := decide_eq_false (by omega)
  have e2 : decide (C < (n : Int)) = false := decide_eq_false (by omega)
  have HWH := Lib.hid hwh
  have HG := Lib.hid G3
  have hnm : n ≤ 16777216 := by omega
  clear hr hL G3 hS hB hs hdd hq h0 h1 h2 h3 hC hn hok hwh
  generalize slotF S B sl i = F at GL GR ⊢
  generalize sl * (B / S) = p at GL GR
  unfold dCells at HG ⊢
  go_enter Tryd.func62, Tryd.ntmps62
  go_upto_region 1 with fail
  have hz : ((w.alloc (.cells #[.int .i64 s.size, .int .i64 s.count, .slice Ak s.kept.length ck, .slice Aw s.waits.length cw, .bool s.off, .int .i64 s.offs, .int .i64 s.fuse, .int .u64 s.wr] 31)).alloc (.cells #[.int .i64 S, .int .i64 B, .int .i64 sl] 61)).heap.size = w.heap.size + 1 + 1 := by simp
  generalize (w.alloc _).alloc _ = w3 at *
  have r4 : Arr (w3.alloc (.cells #[.int .u8 0, .int .u8 0, .int .u8 0, .int .u8 0, .int .u8 0, .int .u8 0, .int .u8 0, .int .u8 0, .int .u8 0, .int .u8 0, .int .u8 0, .int .u8 0, .int .u8 0, .int .u8 0, .int .u8 0, .int .u8 0, .int .u8 0, .int .u8 0, .int .u8 0, .int .u8 0, .int .u8 0, .int .u8 0, .int .u8 0, .int .u8 0, .int .u8 0, .int .u8 0, .int .u8 0, .int .u8 0, .int .u8 0, .int .u8 0, .int .u8 0, .int .u8 0] 47)) w3.heap.size 47 .u8 (List.replicate 32 0) := res_new w3 47
  have G4 := rgo_res HG.out (.cells #[.int .u8 0, .int .u8 0, .int .u8 0, .int .u8 0, .int .u8 0, .int .u8 0, .int .u8 0, .int .u8 0, .int .u8 0, .int .u8 0, .int .u8 0, .int .u8 0, .int .u8 0, .int .u8 0, .int .u8 0, .int .u8 0, .int .u8 0, .int .u8 0, .int .u8 0, .int .u8 0, .int .u8 0, .int .u8 0, .int .u8 0, .int .u8 0, .int .u8 0, .int .u8 0, .int .u8 0, .int .u8 0, .int .u8 0, .int .u8 0, .int .u8 0, .int .u8 0] 47)
  rw [hz] at r4
  generalize w3.alloc (.cells #[.int .u8 0, .int .u8 0, .int .u8 0, .int .u8 0, .int .u8 0, .int .u8 0, .int .u8 0, .int .u8 0, .int .u8 0, .int .u8 0, .int .u8 0, .int .u8 0, .int .u8 0, .int .u8 0, .int .u8 0, .int .u8 0, .int .u8 0, .int .u8 0, .int .u8 0, .int .u8 0, .int .u8 0, .int .u8 0, .int .u8 0, .int .u8 0, .int .u8 0, .int .u8 0, .int .u8 0, .int .u8 0, .int .u8 0, .int .u8 0, .int .u8 0, .int .u8 0] 47) = w4 at *
  have c1 : w4.cell? ⟨w.heap.size + 1, 1, none⟩ = some (.int .i64 B) := G4.y.cell 1
  have c2 : w4.cell? ⟨w.heap.size + 1, 2, none⟩ = some (.int .i64 sl) := G4.y.cell 2
  have HG4 := Lib.hid G4
  clear G4 hz HG
  go_upto_region 3 with fail
  clear c1 c2 hw
  have G5 : Hid (RGo w w4.drew s Ak ck Aw cw S B sl) := Lib.hid (RGo.below HG4.out (below_draws (Below.refl _ _) 1))
  have r5 : Arr w4.drew (w.heap.size + 1 + 1) 47 .u8 (List.replicate 32 0) := Arr.drewN r4 1
  go_region_held3 (fun W' => W'.cell? ⟨w.heap.size, 0, none⟩ = some (.int .i64 s.size) ∧ W'.cell? ⟨w.heap.size, 1, none⟩ = some (.int .i64 s.count) ∧ W'.cell? ⟨w.heap.size, 2, none⟩ = some (.slice Ak s.kept.length ck) ∧ W'.cell? ⟨w.heap.size, 3, none⟩ = some (.slice Aw s.waits.length cw) ∧ W'.cell? ⟨w.heap.size, 4, none⟩ = some (.bool s.off) ∧ W'.cell? ⟨w.heap.size, 5, none⟩ = some (.int .i64 s.offs) ∧ W'.cell? ⟨w.heap.size, 6, none⟩ = some (.int .i64 s.fuse) ∧ W'.cell? ⟨w.heap.size, 7, none⟩ = some (.int .u64 s.wr) ∧ W'.cell? ⟨w.heap.size + 1, 0, none⟩ = some (.int .i64 S) ∧ W'.cell? ⟨w.heap.size + 1, 1, none⟩ = some (.int .i64 B) ∧ W'.cell? ⟨w.heap.size + 1, 2, none⟩ = some (.int .i64 sl))
    (first | exact HG4.out.cells | exact G5.out.cells | exact G6.cells | exact G7.cells)
    (first
      | (go_at_call 86; refine (GL.out _).mono ?_; rintro e w6 ⟨rfl, hb6⟩; have G6 := G5.out.below hb6; have r6 := Arr.below r5 hb6 (Arr.lt r5))
      | (have _t := G6; go_at_call 87; refine (GR.out _ _ G6.r).mono ?_; rintro e w7 ⟨r, hr, rfl, hb7⟩; have G7 := G6.below hb7; have r7 := Arr.below r6 hb7 (Arr.lt r6)))
  have b7 := G7.b
  clear G7 G6 r6 hb6 hb7 G5 r5 r4 HG4 GR GL
  by_cases he : r.2 = 0
  case neg =>
    have f1 : (r.2 != 0) = true := by rw [bne_iff_ne]; exact he
    have HR := Lib.hid hr
    have hso : Hid (sumOf r = zeros32) := Lib.hid (by unfold sumOf; rw [if_neg he])
    clear he hr
    obtain ⟨r1, E⟩ := r
    simp only at f1 ⊢
    generalize zeros32 = ys at *
    go_wp2_with (first
      | (refine wpList_build_zeros rfl _ _ rfl (arrV .u8 ys) (fun W => by simpa using hBz.out W) ?_)
      | (have _t := r7; refine wpList_store_arr rfl _ _ _ rfl (ys := ys) r7 rfl rfl (by rw [Hz.out]; rfl) (by rw [Hz.out]; kernel_rfl) ?_; clear _t; intro w9 r9 g9))
    refine bodyPost_ret (v := .tuple #[arrV .u8 ys, .int .i64 E]) (results_row_tmp rfl _ _ (w.heap.size + 1 + 1) 47 _ (0, 0) _ rfl r9 _ rfl Tryd.underlying47 rfl (by rw [show (ys.map (Value.int .u8)).toArray.size = 32 by simp [Hz.out]]; kernel_rfl)) rfl ⟨_, HR.out, by rw [hso.out], ?_⟩
    exact rgo_fill b7 (by omega) g9
  case pos =>
    have f1 : (r.2 != 0) = false := by simp [he]
    have hoc : Octets r.1 ∧ r.1.length = n := by
      have hr2 := hr
      rcases hr2 with ⟨k, _, _, h2, rfl⟩ | ⟨h1, rfl⟩
      · exact absurd he h2
      · exact ⟨rowP_octets HWH.out h1, rowP_length _ _ _ _⟩
    have HO := Lib.hid hoc
    have HR := Lib.hid hr
    have hso : Hid (sumOf r = sumL r.1) := Lib.hid (by unfold sumOf; rw [if_pos he])
    have GS := Lib.hid (fun A c W (hc : r.1.length ≤ c) (hm : c ≤ maxLen) (hh : Holds W W.heap.size .u8 A r.1) => Sha.rsum_any A r.1 c W (by rw [HO.out.2]; omega) hc hm HO.out.1 hh)
    have Hl := Lib.hid (sumL_length r.1)
    have HMX : Hid (r.1.length ≤ maxLen) := Lib.hid (by rw [HO.out.2]; exact Nat.le_trans hnm (by decide))
    obtain ⟨xs, E⟩ := r
    simp only at f1 he HO HR hso GS Hl HMX ⊢
    subst he
    clear hoc hr
    generalize sumL xs = ys at *
    go_wp2_with (first
      | (refine wpList_bytes_of rfl _ _ 5 _ rfl (xs := xs) rfl Tryd.underlying9 Tryd.underlying22 Tryd.underlying5 HO.out.1 HMX.out ?_; intro A8 c8 w8 k1 k2 k3 hb8; have r8 := Arr.below r7 hb8 (Arr.lt r7); have b8 := b7.trans (hb8.mono b7.size))
      | (have _t := r8; go_at_call 81; refine (GS.out A8 c8 _ k1 k2 k3).mono ?_; clear _t; rintro e w9 ⟨rfl, hb9⟩; have r9 := Arr.below r8 hb9 (Arr.lt r8); have b9 := b8.trans (hb9.mono b8.size))
      | (have _t := r9; refine wpList_store_arr rfl _ _ _ rfl (ys := ys) r9 rfl rfl (by rw [Hl.out]; rfl) (by rw [Hl.out]; kernel_rfl) ?_; clear _t; intro w10 r10 g10))
    refine bodyPost_ret (v := .tuple #[arrV .u8 ys, .int .i64 0]) (results_row_tmp rfl _ _ (w.heap.size + 1 + 1) 47 _ (0, 0) _ rfl r10 _ rfl Tryd.underlying47 rfl (by rw [show (ys.map (Value.int .u8)).toArray.size = 32 by simp [Hl.out]]; kernel_rfl)) rfl ⟨_, HR.out, by rw [hso.out], ?_⟩
    exact rgo_fill b9 (by omega) g10
end Go.Proofs.YtpnodocjpedcmaaDoor.Im
