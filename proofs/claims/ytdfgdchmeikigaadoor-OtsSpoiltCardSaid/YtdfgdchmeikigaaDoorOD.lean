/-
  Layer 3, ots: the end that a signature leads to: contract. Conditions: as each theorem names.
  Layer 3, ots: the public sum that a signature leads to: contracts. Conditions: as each theorem names.
-/
import Derived.Test.YtdfgdchmeikigaaDoorOC
namespace Go.Proofs.YtdfgdchmeikigaaDoor.Ot
open Go.ChangeShapes Go.WideShapes Go.ChangeAt Go.RowKit Go.Proofs.YtdfgdchmeikigaaDoor.Kit Go.Proofs.YtdfgdchmeikigaaDoor.Sha Go.Proofs.YtdfgdchmeikigaaDoor.Mk Go.Proofs.YtdfgdchmeikigaaDoor.Oct

/-- A signature's place of the chain i; the end that it leads to; the public sum that it leads to. -/
def placeL (sig : List Int) (i : Nat) : List Int := (sig.drop (36 + 32 * i)).take 32
def cendL (nm : List Int) (k : Int) (ds sig : List Int) (i : Nat) : List Int := walkL nm i (ds.getD i 0).toNat (lastN k - (ds.getD i 0).toNat) (placeL sig i)
def candL (nm : List Int) (k : Int) (ds sig : List Int) : List Int := sumL (nm ++ ([128, 128] ++ endsL (cendL nm k ds sig) (manyN k)))
theorem placeL_d32 {sig : List Int} {i : Nat} (ho : Octets sig) (hl : 36 + 32 * (i + 1) ≤ sig.length) : D32 (placeL sig i) :=
  ⟨by unfold placeL; rw [List.length_take, List.length_drop]; omega, fun x hx => ho x (List.mem_of_mem_drop (List.mem_of_mem_take hx))⟩

set_option maxRecDepth 100000 in
set_option maxHeartbeats 6400000 in
theorem cand1_any (nm : List Int) (hnl : nm.length = 20) (hno : Octets nm) (k : Int) (hk : KindIn k) (bs os cs : Nat) (sig : List Int) (bd od cd : Nat) (ds : List Int) (p1 p2 p3 p4 : Nat) (j : Nat) (w : World) (hL : LaidS w)
    (hj : j < ds.length) (hj2 : 36 + 32 * (j + 1) ≤ sig.length) (hsm : sig.length ≤ 9000) (hso : Octets sig) (hd : 0 ≤ ds.getD j 0 ∧ ds.getD j 0 ≤ (lastN k : Int)) (hcs : sig.length ≤ cs) (hcm : cs ≤ maxLen) (hdl : ds.length ≤ cd)
    (h1 : w.cell? ⟨p1, 0, none⟩ = some (.slice (some ⟨bs, os, none⟩) sig.length cs)) (hs : Holds w w.heap.size .u8 (some ⟨bs, os, none⟩) sig) (h2 : Arr w p2 78 .u8 nm)
    (h3 : w.cell? ⟨p3, 0, none⟩ = some (.slice (some ⟨bd, od, none⟩) ds.length cd)) (h5 : w.cell? ⟨bd, od + j, none⟩ = some (.int .i64 (ds.getD j 0))) (h4 : w.cell? ⟨p4, 0, none⟩ = some (.int .u32 k)) :
    Calls Tryd.prog 64 #[.int .i64 j, .pointer (some ⟨p1, 0, none⟩), .pointer (some ⟨p2, 0, none⟩), .pointer (some ⟨p3, 0, none⟩), .pointer (some ⟨p4, 0, none⟩)] w (Sums (cendL nm k ds sig j) w) := by
  unfold maxLen at hcm
  obtain ⟨f, hf⟩ : ∃ f : Nat, ds.getD j 0 = (f : Int) := ⟨(ds.getD j 0).toNat, by omega⟩
  have hce : cendL nm k ds sig j = walkL nm j f (lastN k - f) (placeL sig j) := by unfold cendL; rw [hf, Int.toNat_natCast]
  rw [hf] at hd h5
  have hpl := placeL_d32 hso hj2
  have hiz : (0 : Int) ≤ (j : Int) ∧ (j : Int) ≤ 65535 := by omega
  have GL := Lib.hid (fun W => last_any k hk W)
  have GW := Lib.hid (fun W (hb : Below w.heap.size w W) => walk_any nm hnl hno j hiz f (lastN k) (by omega) (lastN_bd k) (placeL sig j) hpl W (hL.below hb))
  rw [← hce] at GW
  have hyl := Lib.hid (show (cendL nm k ds sig j).length = 32 from (by rw [hce]; exact walkL_d32 hpl : D32 (cendL nm k ds sig j)).1)
  generalize cendL nm k ds sig j = ys at *
  obtain ⟨r, hr⟩ : ∃ r : Nat, r = 32 * j := ⟨_, rfl⟩
  obtain ⟨q, hq⟩ : ∃ q : Nat, q = 36 + r := ⟨_, rfl⟩
  have hpe : placeL sig j = (sig.drop q).take 32 := by unfold placeL; rw [hq, hr]
  have hri : (32 : Int) * (j : Int) = (r : Int) := by omega
  have hqi : (36 : Int) + (r : Int) = (q : Int) := by omega
  have hqs : q + 32 ≤ sig.length := by omega
  have hp0 := hpl.1
  have hln := lastN_bd k
  have hrb : r ≤ 9000 := by omega
  have hqb : q ≤ 9000 := by omega
  generalize lastN k = ln at *
  have W0 := below_two' (w := w) (.cells ((List.replicate 32 (0 : Int)).map (Value.int .u8)).toArray 26) (.cells ((List.replicate 32 (0 : Int)).map (Value.int .u8)).toArray 26)
  have L1 := World.block_lt_of_cell? w _ h1
  have L3 := World.block_lt_of_cell? w _ h3
  have L4 := World.block_lt_of_cell? w _ h4
  have L5 := World.block_lt_of_cell? w _ h5
  have L2 := Block.lt h2
  have SC : ((w.alloc (.cells ((List.replicate 32 (0 : Int)).map (Value.int .u8)).toArray 26)).alloc (.cells ((List.replicate 32 (0 : Int)).map (Value.int .u8)).toArray 26)).cell? ⟨p1, 0, none⟩ = some (.slice (some ⟨bs, os, none⟩) sig.length cs) := (W0.cell (p := ⟨p1, 0, none⟩) L1).trans h1
  have DC : ((w.alloc (.cells ((List.replicate 32 (0 : Int)).map (Value.int .u8)).toArray 26)).alloc (.cells ((List.replicate 32 (0 : Int)).map (Value.int .u8)).toArray 26)).cell? ⟨p3, 0, none⟩ = some (.slice (some ⟨bd, od, none⟩) ds.length cd) := (W0.cell (p := ⟨p3, 0, none⟩) L3).trans h3
  have EC : ((w.alloc (.cells ((List.replicate 32 (0 : Int)).map (Value.int .u8)).toArray 26)).alloc (.cells ((List.replicate 32 (0 : Int)).map (Value.int .u8)).toArray 26)).cell? ⟨bd, od + j, none⟩ = some (.int .i64 f) := (W0.cell (p := ⟨bd, od + j, none⟩) L5).trans h5
  have KC : ((w.alloc (.cells ((List.replicate 32 (0 : Int)).map (Value.int .u8)).toArray 26)).alloc (.cells ((List.replicate 32 (0 : Int)).map (Value.int .u8)).toArray 26)).cell? ⟨p4, 0, none⟩ = some (.int .u32 k) := (W0.cell (p := ⟨p4, 0, none⟩) L4).trans h4
  have NC : Arr ((w.alloc (.cells ((List.replicate 32 (0 : Int)).map (Value.int .u8)).toArray 26)).alloc (.cells ((List.replicate 32 (0 : Int)).map (Value.int .u8)).toArray 26)) p2 78 .u8 nm := (h2.alloc _).alloc _
  have RC : Arr ((w.alloc (.cells ((List.replicate 32 (0 : Int)).map (Value.int .u8)).toArray 26)).alloc (.cells ((List.replicate 32 (0 : Int)).map (Value.int .u8)).toArray 26)) w.heap.size 26 .u8 (List.replicate 32 0) := (Arr.new w _ _ _).alloc _
  have PC : Arr ((w.alloc (.cells ((List.replicate 32 (0 : Int)).map (Value.int .u8)).toArray 26)).alloc (.cells ((List.replicate 32 (0 : Int)).map (Value.int .u8)).toArray 26)) (w.heap.size + 1) 26 .u8 (List.replicate 32 0) := by
    have := Arr.new (w.alloc (.cells ((List.replicate 32 (0 : Int)).map (Value.int .u8)).toArray 26)) 26 .u8 (List.replicate 32 0)
    rwa [show (w.alloc (.cells ((List.replicate 32 (0 : Int)).map (Value.int .u8)).toArray 26)).heap.size = w.heap.size + 1 by simp] at this
  have HS : Holds ((w.alloc (.cells ((List.replicate 32 (0 : Int)).map (Value.int .u8)).toArray 26)).alloc (.cells ((List.replicate 32 (0 : Int)).map (Value.int .u8)).toArray 26)) w.heap.size .u8 (some ⟨bs, os, none⟩) sig := hs.below W0
  have hsl := Lib.hid (show (sig.drop q).length = sig.length - q from List.length_drop)
  have HZ : ∀ W, Holds W w.heap.size .u8 (some ⟨bs, os, none⟩) sig → Holds W w.heap.size .u8 (some ⟨bs, os + q, none⟩) (sig.drop q) := fun W h => by
    obtain ⟨b, o, e, hb, hc⟩ := h (by omega)
    injection e with e
    injection e with e1 e2
    subst e1 e2
    intro _
    refine ⟨bs, os + q, rfl, hb, fun i hi => ?_⟩
    rw [hsl.out] at hi
    rw [show os + q + i = os + (q + i) by omega, hc (q + i) (by omega)]
    simp [List.getD, List.getElem?_drop]
  have hcp : ∀ w' : World, Block w' (w.heap.size + 1) 26 (((List.replicate 32 (0 : Int)).map (Value.int .u8)).take 0 ++ (((sig.drop q).take 32).map (Value.int .u8) ++ ((List.replicate 32 (0 : Int)).map (Value.int .u8)).drop (0 + ((sig.drop q).take 32).length))).toArray → Arr w' (w.heap.size + 1) 26 .u8 (placeL sig j) := fun w' h => by
    rw [hpe] at hp0
    rw [hp0] at h
    rw [hpe]
    simpa [Arr] using h
  have HP := Lib.hid hp0
  have HN := Lib.hid hnl
  have HRI := Lib.hid hri
  have HQI := Lib.hid hqi
  have hqi2 : ((q : Int)).toNat = q := Int.toNat_natCast q
  generalize placeL sig j = x at *
  clear hce hpe hri hqi hpl hp0 h1 hs h2 h3 h5 h4 hk hnl hf hd hso hr hq
  go_enter Tryd.func64, Tryd.ntmps64
  go_wp2_with fail
  obtain ⟨W, hW⟩ : ∃ W, ((w.alloc (.cells ((List.replicate 32 (0 : Int)).map (Value.int .u8)).toArray 26)).alloc (.cells ((List.replicate 32 (0 : Int)).map (Value.int .u8)).toArray 26)) = W := ⟨_, rfl⟩
  change Code.wp _ _ _ _ (World.alloc (World.alloc w (.cells ((List.replicate 32 (0 : Int)).map (Value.int .u8)).toArray 26)) (.cells ((List.replicate 32 (0 : Int)).map (Value.int .u8)).toArray 26))
  rw [hW] at W0 SC DC EC KC NC RC PC HS ⊢
  clear hW
  have PC' := PC.drewN 1
  have SC' : (W.drewN 1).cell? ⟨p1, 0, none⟩ = some (.slice (some ⟨bs, os, none⟩) sig.length cs) := SC
  have DC' : (W.drewN 1).cell? ⟨p3, 0, none⟩ = some (.slice (some ⟨bd, od, none⟩) ds.length cd) := DC
  have EC' : (W.drewN 1).cell? ⟨bd, od + j, none⟩ = some (.int .i64 f) := EC
  have KC' : (W.drewN 1).cell? ⟨p4, 0, none⟩ = some (.int .u32 k) := KC
  have NC' := NC.drewN 1
  have RC' := RC.drewN 1
  have HS' : Holds (W.drewN 1) w.heap.size .u8 (some ⟨bs, os, none⟩) sig := HS
  have W0' := below_draws W0 1
  clear SC DC EC KC NC RC PC HS W0
  refine wp_region_held_drew (S := (fun W => W.cell? ⟨p1, 0, none⟩ = some (.slice (some ⟨bs, os, none⟩) sig.length cs))) (by kernel_rfl) SC' (fun hS => ?_)
  refine wpAnyH_take (i := 0) (oi := ⟨some 8, _, _, _, _, _⟩) (v := .slice (some ⟨w.heap.size + 1, 0, none⟩) 32 32) rfl (by kernel_rfl) (by kernel_rfl) (by kernel_rfl) (fun _ _ _ h => h) (Or.inl ⟨by rfl, fun W hW => by go_simp⟩) hS ?_
  try simp only [Act.put, List.setIfInBounds_toArray, List.set_cons_zero, List.set_cons_succ]
  refine wpAnyH_take (i := 1) (oi := ⟨some 9, _, _, _, _, _⟩) (v := .slice (some ⟨bs, os, none⟩) sig.length cs) rfl (by kernel_rfl) (by kernel_rfl) (by kernel_rfl) (fun _ _ _ h => h) (Or.inl ⟨by rfl, fun W hW => by have hc := hW; go_simp⟩) hS ?_
  try simp only [Act.put, List.setIfInBounds_toArray, List.set_cons_zero, List.set_cons_succ]
  refine wpAnyH_take (i := 2) (oi := ⟨some 10, _, _, _, _, _⟩) (v := .int .i64 j) rfl (by kernel_rfl) (by kernel_rfl) (by kernel_rfl) (fun _ _ _ h => h) (Or.inl ⟨by rfl, fun W hW => by go_simp⟩) hS ?_
  try simp only [Act.put, List.setIfInBounds_toArray, List.set_cons_zero, List.set_cons_succ]
  refine wpAnyH_take (i := 3) (oi := ⟨some 11, _, _, _, _, _⟩) (v := .int .i64 r) rfl (by kernel_rfl) (by kernel_rfl) (by kernel_rfl) (fun _ _ _ h => h) (Or.inl ⟨by rfl, fun W hW => by go_simp; rw [HRI.out]; exact IntWalk.i64_in _ (by omega)⟩) hS ?_
  try simp only [Act.put, List.setIfInBounds_toArray, List.set_cons_zero, List.set_cons_succ]
  refine wpAnyH_take (i := 4) (oi := ⟨some 12, _, _, _, _, _⟩) (v := .int .i64 q) rfl (by kernel_rfl) (by kernel_rfl) (by kernel_rfl) (fun _ _ _ h => h) (Or.inl ⟨by rfl, fun W hW => by go_simp; rw [HQI.out]; exact IntWalk.i64_in _ (by omega)⟩) hS ?_
  try simp only [Act.put, List.setIfInBounds_toArray, List.set_cons_zero, List.set_cons_succ]
  refine wpAnyH_take (i := 5) (oi := ⟨some 13, _, _, _, _, _⟩) (v := .slice (some ⟨bs, os + q, none⟩) (sig.length - q) (cs - q)) rfl (by kernel_rfl) (by kernel_rfl) (by kernel_rfl) (fun _ _ _ h => h) (Or.inl ⟨by rfl, fun W hW => by go_simp; rw [if_pos (by omega), if_neg (by omega)]⟩) hS ?_
  try simp only [Act.put, List.setIfInBounds_toArray, List.set_cons_zero, List.set_cons_succ]
  refine wpAnyH_ready (rs := [6]) (by kernel_rfl) (by simp) ?_
  refine AllReadyH.cons rfl (fun K hK => ?_) AllReadyH.nil
  refine step_of_list (by rfl) (fun Q9 hn => ?_)
  refine wpList_copy_mid rfl (.tmp 8) (.tmp 13) 35 rfl Oct.elem8 rfl (A := some ⟨bs, os + q, none⟩) (ys := sig.drop q) (c := cs - q) (by rw [hsl.out]; rfl) (HZ _ HS') PC' (by simp) ?_
  intro w3 n3 g3
  refine hn _ _ ?_
  change K (Act.put _ (some 14) _) _
  clear hn
  have PCy := hcp w3 n3
  have NCy : Arr w3 p2 78 .u8 nm := Arr.grown NC' g3 (by intro e; injection e with e; omega)
  have RCy : Arr w3 w.heap.size 26 .u8 (List.replicate 32 0) := Arr.grown RC' g3 (by intro e; injection e with e; omega)
  have SCy : w3.cell? ⟨p1, 0, none⟩ = some (.slice (some ⟨bs, os, none⟩) sig.length cs) := g3.cell SC' (by show some p1 ≠ some (w.heap.size + 1); intro e; injection e with e; have : p1 < w.heap.size := L1; omega)
  have DCy : w3.cell? ⟨p3, 0, none⟩ = some (.slice (some ⟨bd, od, none⟩) ds.length cd) := g3.cell DC' (by show some p3 ≠ some (w.heap.size + 1); intro e; injection e with e; have : p3 < w.heap.size := L3; omega)
  have ECy : w3.cell? ⟨bd, od + j, none⟩ = some (.int .i64 f) := g3.cell EC' (by show some bd ≠ some (w.heap.size + 1); intro e; injection e with e; have : bd < w.heap.size := L5; omega)
  have KCy : w3.cell? ⟨p4, 0, none⟩ = some (.int .u32 k) := g3.cell KC' (by show some p4 ≠ some (w.heap.size + 1); intro e; injection e with e; have : p4 < w.heap.size := L4; omega)
  have BCy := W0'.trans (below_of_grown g3 W0'.size fun b hb => by injection hb with hb; omega)
  clear PC' NC' RC' DC' EC' KC' HS' W0' n3 g3
  refine hK.out _ _ SCy (fun hS => ?_)
  clear hK K
  try simp only [Act.put, List.setIfInBounds_toArray, List.set_cons_zero, List.set_cons_succ]
  refine wpAnyH_done (by kernel_rfl) ?_ _
  clear SC' hS
  go_wp2_with fail
  have PC := PCy.drewN 1
  have NC := NCy.drewN 1
  have RC := RCy.drewN 1
  have DC : (w3.drewN 1).cell? ⟨p3, 0, none⟩ = some (.slice (some ⟨bd, od, none⟩) ds.length cd) := DCy
  have EC : (w3.drewN 1).cell? ⟨bd, od + j, none⟩ = some (.int .i64 f) := ECy
  have KC : (w3.drewN 1).cell? ⟨p4, 0, none⟩ = some (.int .u32 k) := KCy
  have BC := below_draws BCy 1
  clear PCy NCy RCy DCy ECy KCy BCy SCy
  refine wp_region_held_drew (S := (fun W => Arr W p2 78 .u8 nm ∧ W.cell? ⟨p3, 0, none⟩ = some (.slice (some ⟨bd, od, none⟩) ds.length cd) ∧ W.cell? ⟨bd, od + j, none⟩ = some (.int .i64 f) ∧ W.cell? ⟨p4, 0, none⟩ = some (.int .u32 k) ∧ Arr W (w.heap.size + 1) 26 .u8 x)) (by kernel_rfl) ⟨NC, DC, EC, KC, PC⟩ (fun hS => ?_)
  refine wpAnyH_take (i := 0) (v := .agg (nm.map (Value.int .u8)).toArray) rfl (by kernel_rfl) (by kernel_rfl) (by kernel_rfl) (fun _ _ _ h => h) (yieldsIf_load_mid (by rfl) _ _ rfl p2 0 rfl (nm.map (Value.int .u8)) _ (fun W hW => Arr.range hW.1) arr20 rfl (by rw [List.length_map, HN.out]; kernel_rfl)) hS ?_
  try simp only [Act.put, List.setIfInBounds_toArray, List.set_cons_zero, List.set_cons_succ]
  refine wpAnyH_take (i := 1) (v := .int .i64 j) rfl (by kernel_rfl) (by kernel_rfl) (by kernel_rfl) (fun _ _ _ h => h) (Or.inl ⟨by rfl, fun W hW => by go_simp⟩) hS ?_
  try simp only [Act.put, List.setIfInBounds_toArray, List.set_cons_zero, List.set_cons_succ]
  refine wpAnyH_take (i := 2) (v := .slice (some ⟨bd, od, none⟩) ds.length cd) rfl (by kernel_rfl) (by kernel_rfl) (by kernel_rfl) (fun _ _ _ h => h) (Or.inl ⟨by rfl, fun W hW => by obtain ⟨_, hc, _⟩ := hW; go_simp⟩) hS ?_
  try simp only [Act.put, List.setIfInBounds_toArray, List.set_cons_zero, List.set_cons_succ]
  refine wpAnyH_take (i := 3) (v := .int .i64 j) rfl (by kernel_rfl) (by kernel_rfl) (by kernel_rfl) (fun _ _ _ h => h) (Or.inl ⟨by rfl, fun W hW => by go_simp⟩) hS ?_
  try simp only [Act.put, List.setIfInBounds_toArray, List.set_cons_zero, List.set_cons_succ]
  refine wpAnyH_take (i := 4) (v := .pointer (some ⟨bd, od + j, none⟩)) rfl (by kernel_rfl) (by kernel_rfl) (by kernel_rfl) (fun _ _ _ h => h) (Or.inl ⟨by rfl, fun W hW => by go_simp⟩) hS ?_
  try simp only [Act.put, List.setIfInBounds_toArray, List.set_cons_zero, List.set_cons_succ]
  refine wpAnyH_take (i := 5) (v := .int .i64 f) rfl (by kernel_rfl) (by kernel_rfl) (by kernel_rfl) (fun _ _ _ h => h) (Or.inl ⟨by rfl, fun W hW => by obtain ⟨_, _, hc, _⟩ := hW; go_simp⟩) hS ?_
  try simp only [Act.put, List.setIfInBounds_toArray, List.set_cons_zero, List.set_cons_succ]
  refine wpAnyH_take (i := 6) (v := .int .u32 k) rfl (by kernel_rfl) (by kernel_rfl) (by kernel_rfl) (fun _ _ _ h => h) (Or.inl ⟨by rfl, fun W hW => by obtain ⟨_, _, _, hc, _⟩ := hW; go_simp⟩) hS ?_
  try simp only [Act.put, List.setIfInBounds_toArray, List.set_cons_zero, List.set_cons_succ]
  refine wpAnyH_take (i := 8) (v := .agg (x.map (Value.int .u8)).toArray) rfl (by kernel_rfl) (by kernel_rfl) (by kernel_rfl) (fun _ _ _ h => h) (yieldsIf_load_mid (by rfl) _ _ rfl (w.heap.size + 1) 0 rfl (x.map (Value.int .u8)) _ (fun W hW => Arr.range hW.2.2.2.2) arr32D rfl (by rw [List.length_map, HP.out]; kernel_rfl)) hS ?_
  try simp only [Act.put, List.setIfInBounds_toArray, List.set_cons_zero, List.set_cons_succ]
  obtain ⟨x0, e0⟩ : ∃ x0, x0 = w3.drew := ⟨_, rfl⟩
  have NCx0 : Arr x0 p2 78 .u8 nm := by rw [e0]; exact NC
  have DCx0 : x0.cell? ⟨p3, 0, none⟩ = some (.slice (some ⟨bd, od, none⟩) ds.length cd) := by rw [e0]; exact DC
  have ECx0 : x0.cell? ⟨bd, od + j, none⟩ = some (.int .i64 f) := by rw [e0]; exact EC
  have KCx0 : x0.cell? ⟨p4, 0, none⟩ = some (.int .u32 k) := by rw [e0]; exact KC
  have PCx0 : Arr x0 (w.heap.size + 1) 26 .u8 x := by rw [e0]; exact PC
  have RCx0 : Arr x0 w.heap.size 26 .u8 (List.replicate 32 0) := by rw [e0]; exact RC
  have BCx0 : Below w.heap.size w x0 := by rw [e0]; exact BC
  rw [← e0] at hS ⊢
  clear e0 NC DC EC KC PC RC BC
  refine wpAnyH_ready (rs := [7]) (by kernel_rfl) (by simp) ?_
  refine AllReadyH.cons rfl (fun K hK => ?_) AllReadyH.nil
  go_simp
  go_at_call 52
  refine (GL.out _).mono ?_
  rintro e _ ⟨rfl, rfl⟩
  refine hK.out _ _ ⟨NCx0, DCx0, ECx0, KCx0, PCx0⟩ (fun hS => ?_)
  clear hK K
  try simp only [Act.put, List.setIfInBounds_toArray, List.set_cons_zero, List.set_cons_succ]
  refine wpAnyH_ready (rs := [9]) (by kernel_rfl) (by simp) ?_
  refine AllReadyH.cons rfl (fun K hK => ?_) AllReadyH.nil
  go_simp
  go_at_call 51
  refine (GW.out _ BCx0).mono ?_
  rintro e x1 ⟨rfl, h⟩
  have NCx1 : Arr x1 p2 78 .u8 nm := Block.below NCx0 h (Block.lt NCx0)
  have DCx1 : x1.cell? ⟨p3, 0, none⟩ = some (.slice (some ⟨bd, od, none⟩) ds.length cd) := (h.cell (p := ⟨p3, 0, none⟩) (World.block_lt_of_cell? _ _ DCx0)).trans DCx0
  have ECx1 : x1.cell? ⟨bd, od + j, none⟩ = some (.int .i64 f) := (h.cell (p := ⟨bd, od + j, none⟩) (World.block_lt_of_cell? _ _ ECx0)).trans ECx0
  have KCx1 : x1.cell? ⟨p4, 0, none⟩ = some (.int .u32 k) := (h.cell (p := ⟨p4, 0, none⟩) (World.block_lt_of_cell? _ _ KCx0)).trans KCx0
  have PCx1 : Arr x1 (w.heap.size + 1) 26 .u8 x := Block.below PCx0 h (Block.lt PCx0)
  have RCx1 : Arr x1 w.heap.size 26 .u8 (List.replicate 32 0) := Block.below RCx0 h (Block.lt RCx0)
  have BCx1 : Below w.heap.size w x1 := BCx0.trans (h.mono BCx0.size)
  refine hK.out _ _ ⟨NCx1, DCx1, ECx1, KCx1, PCx1⟩ (fun hS => ?_)
  clear hK K
  try simp only [Act.put, List.setIfInBounds_toArray, List.set_cons_zero, List.set_cons_succ]
  refine wpAnyH_ready (rs := [10]) (by kernel_rfl) (by simp) ?_
  refine AllReadyH.cons rfl (fun K hK => ?_) AllReadyH.nil
  have : p2 < w.heap.size := L2
  have : p3 < w.heap.size := L3
  have : p4 < w.heap.size := L4
  have : bd < w.heap.size := L5
  refine step_store_arr rfl _ _ _ rfl (ys := ys) RCx1 rfl rfl (by rw [hyl.out]; rfl) (by rw [hyl.out]; kernel_rfl) ?_
  intro x2 RCx2 g9
  have NCx2 : Arr x2 p2 78 .u8 nm := Arr.grown NCx1 g9 (by intro e; injection e with e; omega)
  have DCx2 : x2.cell? ⟨p3, 0, none⟩ = some (.slice (some ⟨bd, od, none⟩) ds.length cd) := g9.cell DCx1 (by show some (p3) ≠ some (w.heap.size); intro e; injection e with e; omega)
  have ECx2 : x2.cell? ⟨bd, od + j, none⟩ = some (.int .i64 f) := g9.cell ECx1 (by show some (bd) ≠ some (w.heap.size); intro e; injection e with e; omega)
  have KCx2 : x2.cell? ⟨p4, 0, none⟩ = some (.int .u32 k) := g9.cell KCx1 (by show some (p4) ≠ some (w.heap.size); intro e; injection e with e; omega)
  have PCx2 : Arr x2 (w.heap.size + 1) 26 .u8 x := Arr.grown PCx1 g9 (by intro e; injection e with e; omega)
  have BCx2 : Below w.heap.size w x2 := BCx1.trans (below_of_grown g9 BCx1.size fun b hb => by injection hb with hb; omega)
  refine hK.out _ _ ⟨NCx2, DCx2, ECx2, KCx2, PCx2⟩ (fun hS => ?_)
  clear hK K
  try simp only [Act.put, List.setIfInBounds_toArray, List.set_cons_zero, List.set_cons_succ]
  refine wpAnyH_done (by kernel_rfl) ?_ _
  go_wp2_with fail
  refine bodyPost_ret (v := arrV .u8 ys) (results_cell_row rfl _ _ w.heap.size 26 _ (0, 0) _ rfl RCx2 arr32D rfl (by rw [show (ys.map (Value.int .u8)).toArray.size = 32 by simp [hyl.out]]; kernel_rfl)) rfl ⟨rfl, BCx2⟩
end Go.Proofs.YtdfgdchmeikigaaDoor.Ot

namespace Go.Proofs.YtdfgdchmeikigaaDoor.Ot
open Go.ChangeShapes Go.WideShapes Go.ChangeAt Go.RowKit Go.Proofs.YtdfgdchmeikigaaDoor.Kit Go.Proofs.YtdfgdchmeikigaaDoor.Sha Go.Proofs.YtdfgdchmeikigaaDoor.Mk Go.Proofs.YtdfgdchmeikigaaDoor.Oct

theorem grown_cell (w : World) (g i : Nat) (u : Value) : w.grownBy (w.setCell ⟨g, i, none⟩ u) (some g) :=
  ⟨rfl, rfl, rfl, by simp, fun j _ hj => Below.heap_setCell w _ u j (fun e => hj (by rw [e]))⟩
/-- Some bytes out of the midst of a row. -/
theorem RwOk.mid {w : World} {B bs os cs : Nat} {xs : List Int} (h : RwOk w B ⟨some ⟨bs, os, none⟩, cs, xs⟩) (p n : Nat) (hp : p + n ≤ xs.length) : RwOk w B ⟨some ⟨bs, os + p, none⟩, cs - p, (xs.drop p).take n⟩ := by
  obtain ⟨h1, h2, h3, h4⟩ := h
  have hl : ((xs.drop p).take n).length = n := by rw [List.length_take, List.length_drop]; omega
  simp only at h1 h2 h3 h4
  refine ⟨by show ((xs.drop p).take n).length ≤ cs - p; omega, by show cs - p ≤ maxLen; omega, fun x hx => h3 x (List.mem_of_mem_drop (List.mem_of_mem_take hx)), ?_⟩
  show Holds w B .u8 (some ⟨bs, os + p, none⟩) ((xs.drop p).take n)
  intro hx
  rw [hl] at hx
  obtain ⟨b, o, e, hb, hc⟩ := h4 (by omega)
  injection e with e
  injection e with e1 e2
  subst e1 e2
  refine ⟨bs, os + p, rfl, hb, fun i hi => ?_⟩
  rw [hl] at hi
  rw [show os + p + i = os + (p + i) by omega, hc (p + i) (by omega)]
  simp [List.getD, List.getElem?_take, List.getElem?_drop, hi]

set_option maxRecDepth 100000 in
set_option maxHeartbeats 6400000 in
theorem cand_no (k : Int) (hk : ¬ KindIn k) (id : List Int) (q : Int) (A : Option Addr) (sig : List Int) (cs : Nat) (A2 : Option Addr) (text : List Int) (c2 : Nat) (w : World) :
    Calls Tryd.prog 23 #[.int .u32 k, .agg (id.map (Value.int .u8)).toArray, .int .u32 q, .slice A sig.length cs, .slice A2 text.length c2] w (SumsN zeros32 21 w) := by
  have bb : ∀ o p y z, Below w.heap.size w ((((w.alloc o).alloc p).alloc y).alloc z) := fun o p y z => ((below_two' o p).alloc (by simp; omega) y).alloc (by simp; omega) z
  have r0 : Arr ((((w.alloc (.cells #[.int .u32 k] 22)).alloc (.cells (id.map (Value.int .u8)).toArray 30)).alloc (.cells #[.slice A sig.length cs] 35)).alloc (.cells ((List.replicate 32 (0 : Int)).map (Value.int .u8)).toArray 26)) (w.heap.size + 1 + 1 + 1) 26 .u8 (List.replicate 32 0) := by
    have := Arr.new (((w.alloc (.cells #[.int .u32 k] 22)).alloc (.cells (id.map (Value.int .u8)).toArray 30)).alloc (.cells #[.slice A sig.length cs] 35)) 26 .u8 (List.replicate 32 0)
    rwa [show (((w.alloc (.cells #[.int .u32 k] 22)).alloc (.cells (id.map (Value.int .u8)).toArray 30)).alloc (.cells #[.slice A sig.length cs] 35)).heap.size = w.heap.size + 1 + 1 + 1 by simp] at this
  have k0 : Block ((((w.alloc (.cells #[.int .u32 k] 22)).alloc (.cells (id.map (Value.int .u8)).toArray 30)).alloc (.cells #[.slice A sig.length cs] 35)).alloc (.cells ((List.replicate 32 (0 : Int)).map (Value.int .u8)).toArray 26)) w.heap.size 22 #[.int .u32 k] := (((Block.new w _ _).alloc _).alloc _).alloc _
  have i0 : Arr ((((w.alloc (.cells #[.int .u32 k] 22)).alloc (.cells (id.map (Value.int .u8)).toArray 30)).alloc (.cells #[.slice A sig.length cs] 35)).alloc (.cells ((List.replicate 32 (0 : Int)).map (Value.int .u8)).toArray 26)) (w.heap.size + 1) 30 .u8 id := by
    have := ((Arr.new (w.alloc (.cells #[.int .u32 k] 22)) 30 .u8 id).alloc (.cells #[.slice A sig.length cs] 35)).alloc (.cells ((List.replicate 32 (0 : Int)).map (Value.int .u8)).toArray 26)
    rwa [show (w.alloc (.cells #[.int .u32 k] 22)).heap.size = w.heap.size + 1 by simp] at this
  have s0 : Block ((((w.alloc (.cells #[.int .u32 k] 22)).alloc (.cells (id.map (Value.int .u8)).toArray 30)).alloc (.cells #[.slice A sig.length cs] 35)).alloc (.cells ((List.replicate 32 (0 : Int)).map (Value.int .u8)).toArray 26)) (w.heap.size + 1 + 1) 35 #[.slice A sig.length cs] := by
    have := (Block.new ((w.alloc (.cells #[.int .u32 k] 22)).alloc (.cells (id.map (Value.int .u8)).toArray 30)) 35 #[.slice A sig.length cs]).alloc (.cells ((List.replicate 32 (0 : Int)).map (Value.int .u8)).toArray 26)
    rwa [show ((w.alloc (.cells #[.int .u32 k] 22)).alloc (.cells (id.map (Value.int .u8)).toArray 30)).heap.size = w.heap.size + 1 + 1 by simp] at this
  have b0 := bb (.cells #[.int .u32 k] 22) (.cells (id.map (Value.int .u8)).toArray 30) (.cells #[.slice A sig.length cs] 35) (.cells ((List.replicate 32 (0 : Int)).map (Value.int .u8)).toArray 26)
  clear bb
  have hc : chainsN k = 0 := by rw [chains_many, (kind_none hk).2.1]; rfl
  have GC := Lib.hid (fun W => chains_any k W)
  rw [hc] at GC
  clear hc k0 i0 s0
  have Hz := Lib.hid (show zeros32.length = 32 from rfl)
  have hBz := build_zeros
  generalize zeros32 = ys at *
  go_enter Tryd.func23, Tryd.ntmps23
  go_wp2_with (first
    | (go_at_call 16; refine (GC.out _).mono ?_; rintro e w1 ⟨rfl, rfl⟩)
    | (refine wpList_build_known rfl _ _ rfl (arrV .u8 ys) (fun W => by simpa using hBz W) ?_)
    | (have _t := r0; refine wpList_store_arr rfl _ _ _ rfl (ys := ys) r0 rfl rfl (by rw [Hz.out]; rfl) (by rw [Hz.out]; kernel_rfl) ?_; intro w9 r9 g9))
  refine bodyPost_ret (v := .tuple #[arrV .u8 ys, .int .i64 21]) (results_row_tmp rfl _ _ (w.heap.size + 1 + 1 + 1) 26 _ (0, 0) _ rfl r9 _ rfl arr32D rfl (by rw [show (ys.map (Value.int .u8)).toArray.size = 32 by simp [Hz.out]]; kernel_rfl)) rfl ⟨rfl, ?_⟩
  exact b0.trans (below_of_grown g9 b0.size fun b hb => by injection hb with hb; omega)
set_option maxRecDepth 100000 in
set_option maxHeartbeats 6400000 in
theorem cand_form (k : Int) (hk : KindIn k) (id : List Int) (q : Int) (A : Option Addr) (sig : List Int) (cs : Nat) (A2 : Option Addr) (text : List Int) (c2 : Nat) (w : World) (hl : sig.length ≠ 36 + 32 * manyN k) :
    Calls Tryd.prog 23 #[.int .u32 k, .agg (id.map (Value.int .u8)).toArray, .int .u32 q, .slice A sig.length cs, .slice A2 text.length c2] w (SumsN zeros32 3 w) := by
  have bb : ∀ o p y z, Below w.heap.size w ((((w.alloc o).alloc p).alloc y).alloc z) := fun o p y z => ((below_two' o p).alloc (by simp; omega) y).alloc (by simp; omega) z
  have r0 : Arr ((((w.alloc (.cells #[.int .u32 k] 22)).alloc (.cells (id.map (Value.int .u8)).toArray 30)).alloc (.cells #[.slice A sig.length cs] 35)).alloc (.cells ((List.replicate 32 (0 : Int)).map (Value.int .u8)).toArray 26)) (w.heap.size + 1 + 1 + 1) 26 .u8 (List.replicate 32 0) := by
    have := Arr.new (((w.alloc (.cells #[.int .u32 k] 22)).alloc (.cells (id.map (Value.int .u8)).toArray 30)).alloc (.cells #[.slice A sig.length cs] 35)) 26 .u8 (List.replicate 32 0)
    rwa [show (((w.alloc (.cells #[.int .u32 k] 22)).alloc (.cells (id.map (Value.int .u8)).toArray 30)).alloc (.cells #[.slice A sig.length cs] 35)).heap.size = w.heap.size + 1 + 1 + 1 by simp] at this
  have k0 : Block ((((w.alloc (.cells #[.int .u32 k] 22)).alloc (.cells (id.map (Value.int .u8)).toArray 30)).alloc (.cells #[.slice A sig.length cs] 35)).alloc (.cells ((List.replicate 32 (0 : Int)).map (Value.int .u8)).toArray 26)) w.heap.size 22 #[.int .u32 k] := (((Block.new w _ _).alloc _).alloc _).alloc _
  have i0 : Arr ((((w.alloc (.cells #[.int .u32 k] 22)).alloc (.cells (id.map (Value.int .u8)).toArray 30)).alloc (.cells #[.slice A sig.length cs] 35)).alloc (.cells ((List.replicate 32 (0 : Int)).map (Value.int .u8)).toArray 26)) (w.heap.size + 1) 30 .u8 id := by
    have := ((Arr.new (w.alloc (.cells #[.int .u32 k] 22)) 30 .u8 id).alloc (.cells #[.slice A sig.length cs] 35)).alloc (.cells ((List.replicate 32 (0 : Int)).map (Value.int .u8)).toArray 26)
    rwa [show (w.alloc (.cells #[.int .u32 k] 22)).heap.size = w.heap.size + 1 by simp] at this
  have s0 : Block ((((w.alloc (.cells #[.int .u32 k] 22)).alloc (.cells (id.map (Value.int .u8)).toArray 30)).alloc (.cells #[.slice A sig.length cs] 35)).alloc (.cells ((List.replicate 32 (0 : Int)).map (Value.int .u8)).toArray 26)) (w.heap.size + 1 + 1) 35 #[.slice A sig.length cs] := by
    have := (Block.new ((w.alloc (.cells #[.int .u32 k] 22)).alloc (.cells (id.map (Value.int .u8)).toArray 30)) 35 #[.slice A sig.length cs]).alloc (.cells ((List.replicate 32 (0 : Int)).map (Value.int .u8)).toArray 26)
    rwa [show ((w.alloc (.cells #[.int .u32 k] 22)).alloc (.cells (id.map (Value.int .u8)).toArray 30)).heap.size = w.heap.size + 1 + 1 by simp] at this
  have b0 := bb (.cells #[.int .u32 k] 22) (.cells (id.map (Value.int .u8)).toArray 30) (.cells #[.slice A sig.length cs] 35) (.cells ((List.replicate 32 (0 : Int)).map (Value.int .u8)).toArray 26)
  clear bb
  have dm : decide ((manyN k : Int) = 0) = false := decide_eq_false (by have := (kind_wide hk).2.1; omega)
  have dm2 : ((manyN k : Int) == 0) = false := by rw [beq_eq_false_iff_ne]; have := (kind_wide hk).2.1; omega
  have GC := Lib.hid (fun W => chains_any k W)
  rw [chains_many] at GC
  have GS := Lib.hid (fun W => size_any k W)
  have hz0 : sizeN k = ((36 + 32 * manyN k : Nat) : Int) := by unfold sizeN; rw [if_neg (by have := (kind_wide hk).2.1; omega)]; omega
  rw [hz0] at GS
  clear hz0
  generalize 36 + 32 * manyN k = sz at *
  have d1 : ((sig.length : Int) != (sz : Int)) = true := by rw [bne_iff_ne]; omega
  have d2 : (sig.length != sz) = true := by rw [bne_iff_ne]; omega
  have d3 : (sig.length == sz) = false := by rw [beq_eq_false_iff_ne]; omega
  clear hl hk
  generalize manyN k = m at *
  have Hz := Lib.hid (show zeros32.length = 32 from rfl)
  have hBz := build_zeros
  generalize zeros32 = ys at *
  go_enter Tryd.func23, Tryd.ntmps23
  go_wp2_with (go_at_call 16; refine (GC.out _).mono ?_; rintro e w1 ⟨rfl, rfl⟩)
  obtain ⟨W, hW⟩ : ∃ W, ((((w.alloc (.cells #[.int .u32 k] 22)).alloc (.cells (id.map (Value.int .u8)).toArray 30)).alloc (.cells #[.slice A sig.length cs] 35)).alloc (.cells ((List.replicate 32 (0 : Int)).map (Value.int .u8)).toArray 26)) = W := ⟨_, rfl⟩
  change Code.wp _ _ _ _ (World.alloc (World.alloc (World.alloc (World.alloc w _) _) _) (.cells ((List.replicate 32 (0 : Int)).map (Value.int .u8)).toArray 26))
  rw [hW] at r0 k0 i0 s0 b0 ⊢
  clear hW
  have r1 := r0.drewN 1
  have k1 := k0.drewN 1
  have i1 := i0.drewN 1
  have s1 := s0.drewN 1
  have b1 := below_draws b0 1
  clear r0 k0 i0 s0 b0
  refine wp_region_held_drew (S := (fun W => Block W w.heap.size 22 #[.int .u32 k] ∧ Block W (w.heap.size + 1 + 1) 35 #[.slice A sig.length cs])) (by kernel_rfl) ⟨k1, s1⟩ (fun hS => ?_)
  refine wpAnyH_take (i := 0) (oi := ⟨some 20, _, _, _, _, _⟩) (v := .slice A sig.length cs) rfl (by kernel_rfl) (by kernel_rfl) (by kernel_rfl) (fun _ _ _ h => h) (Or.inl ⟨by rfl, fun W hW => by have hc : W.cell? ⟨w.heap.size + 1 + 1, 0, none⟩ = some (.slice A sig.length cs) := hW.2.cell 0; go_simp⟩) hS ?_
  try simp only [Act.put, List.setIfInBounds_toArray, List.set_cons_zero, List.set_cons_succ]
  refine wpAnyH_take (i := 2) (oi := ⟨some 22, _, _, _, _, _⟩) (v := .int .u32 k) rfl (by kernel_rfl) (by kernel_rfl) (by kernel_rfl) (fun _ _ _ h => h) (Or.inl ⟨by rfl, fun W hW => by have hc : W.cell? ⟨w.heap.size, 0, none⟩ = some (.int .u32 k) := hW.1.cell 0; go_simp⟩) hS ?_
  try simp only [Act.put, List.setIfInBounds_toArray, List.set_cons_zero, List.set_cons_succ]
  refine wpAnyH_take (i := 1) (oi := ⟨some 21, _, _, _, _, _⟩) (v := .int .i64 sig.length) rfl (by kernel_rfl) (by kernel_rfl) (by kernel_rfl) (fun _ _ _ h => h) (Or.inl ⟨by rfl, fun W hW => by go_simp⟩) hS ?_
  try simp only [Act.put, List.setIfInBounds_toArray, List.set_cons_zero, List.set_cons_succ]
  obtain ⟨x0, e0⟩ : ∃ x0, x0 = W.drew := ⟨_, rfl⟩
  have kx0 : Block x0 w.heap.size 22 #[.int .u32 k] := by rw [e0]; exact k1
  have ix0 : Arr x0 (w.heap.size + 1) 30 .u8 id := by rw [e0]; exact i1
  have sx0 : Block x0 (w.heap.size + 1 + 1) 35 #[.slice A sig.length cs] := by rw [e0]; exact s1
  have rx0 : Arr x0 (w.heap.size + 1 + 1 + 1) 26 .u8 (List.replicate 32 0) := by rw [e0]; exact r1
  have bx0 : Below w.heap.size w x0 := by rw [e0]; exact b1
  rw [← e0] at hS ⊢
  clear e0 k1 i1 s1 r1 b1
  refine wpAnyH_ready (rs := [3]) (by kernel_rfl) (by simp) ?_
  refine AllReadyH.cons rfl (fun K hK => ?_) AllReadyH.nil
  go_simp
  go_at_call 17
  refine (GS.out _).mono ?_
  rintro e _ ⟨rfl, rfl⟩
  refine hK.out _ _ ⟨kx0, sx0⟩ (fun hS => ?_)
  clear hK K
  try simp only [Act.put, List.setIfInBounds_toArray, List.set_cons_zero, List.set_cons_succ]
  refine wpAnyH_take (i := 4) (oi := ⟨some 24, _, _, _, _, _⟩) (v := .bool true) rfl (by kernel_rfl) (by kernel_rfl) (by kernel_rfl) (fun _ _ _ h => h) (Or.inl ⟨by rfl, fun W hW => by go_simp⟩) hS ?_
  try simp only [Act.put, List.setIfInBounds_toArray, List.set_cons_zero, List.set_cons_succ]
  refine wpAnyH_done (by kernel_rfl) ?_ _
  go_wp2_with (first
    | (refine wpList_build_known rfl _ _ rfl (arrV .u8 ys) (fun W => by simpa using hBz W) ?_)
    | (have _t := rx0; refine wpList_store_arr rfl _ _ _ rfl (ys := ys) rx0 rfl rfl (by rw [Hz.out]; rfl) (by rw [Hz.out]; kernel_rfl) ?_; intro w9 r9 g9))
  refine bodyPost_ret (v := .tuple #[arrV .u8 ys, .int .i64 3]) (results_row_tmp rfl _ _ (w.heap.size + 1 + 1 + 1) 26 _ (0, 0) _ rfl r9 _ rfl arr32D rfl (by rw [show (ys.map (Value.int .u8)).toArray.size = 32 by simp [Hz.out]]; kernel_rfl)) rfl ⟨rfl, ?_⟩
  exact bx0.trans (below_of_grown g9 bx0.size fun b hb => by injection hb with hb; omega)
set_option maxRecDepth 100000 in
set_option maxHeartbeats 6400000 in
theorem cand_kind (k : Int) (hk : KindIn k) (id : List Int) (q : Int) (A : Option Addr) (sig : List Int) (cs : Nat) (A2 : Option Addr) (text : List Int) (c2 : Nat) (w : World) (hsm : sig.length ≤ 9000) (hsk : RwOk w w.heap.size ⟨A, cs, sig⟩) (hl : sig.length = 36 + 32 * manyN k) (hv : val (sig.take 4) ≠ k) :
    Calls Tryd.prog 23 #[.int .u32 k, .agg (id.map (Value.int .u8)).toArray, .int .u32 q, .slice A sig.length cs, .slice A2 text.length c2] w (SumsN zeros32 21 w) := by
  have bb : ∀ o p y z, Below w.heap.size w ((((w.alloc o).alloc p).alloc y).alloc z) := fun o p y z => ((below_two' o p).alloc (by simp; omega) y).alloc (by simp; omega) z
  have r0 : Arr ((((w.alloc (.cells #[.int .u32 k] 22)).alloc (.cells (id.map (Value.int .u8)).toArray 30)).alloc (.cells #[.slice A sig.length cs] 35)).alloc (.cells ((List.replicate 32 (0 : Int)).map (Value.int .u8)).toArray 26)) (w.heap.size + 1 + 1 + 1) 26 .u8 (List.replicate 32 0) := by
    have := Arr.new (((w.alloc (.cells #[.int .u32 k] 22)).alloc (.cells (id.map (Value.int .u8)).toArray 30)).alloc (.cells #[.slice A sig.length cs] 35)) 26 .u8 (List.replicate 32 0)
    rwa [show (((w.alloc (.cells #[.int .u32 k] 22)).alloc (.cells (id.map (Value.int .u8)).toArray 30)).alloc (.cells #[.slice A sig.length cs] 35)).heap.size = w.heap.size + 1 + 1 + 1 by simp] at this
  have k0 : Block ((((w.alloc (.cells #[.int .u32 k] 22)).alloc (.cells (id.map (Value.int .u8)).toArray 30)).alloc (.cells #[.slice A sig.length cs] 35)).alloc (.cells ((List.replicate 32 (0 : Int)).map (Value.int .u8)).toArray 26)) w.heap.size 22 #[.int .u32 k] := (((Block.new w _ _).alloc _).alloc _).alloc _
  have i0 : Arr ((((w.alloc (.cells #[.int .u32 k] 22)).alloc (.cells (id.map (Value.int .u8)).toArray 30)).alloc (.cells #[.slice A sig.length cs] 35)).alloc (.cells ((List.replicate 32 (0 : Int)).map (Value.int .u8)).toArray 26)) (w.heap.size + 1) 30 .u8 id := by
    have := ((Arr.new (w.alloc (.cells #[.int .u32 k] 22)) 30 .u8 id).alloc (.cells #[.slice A sig.length cs] 35)).alloc (.cells ((List.replicate 32 (0 : Int)).map (Value.int .u8)).toArray 26)
    rwa [show (w.alloc (.cells #[.int .u32 k] 22)).heap.size = w.heap.size + 1 by simp] at this
  have s0 : Block ((((w.alloc (.cells #[.int .u32 k] 22)).alloc (.cells (id.map (Value.int .u8)).toArray 30)).alloc (.cells #[.slice A sig.length cs] 35)).alloc (.cells ((List.replicate 32 (0 : Int)).map (Value.int .u8)).toArray 26)) (w.heap.size + 1 + 1) 35 #[.slice A sig.length cs] := by
    have := (Block.new ((w.alloc (.cells #[.int .u32 k] 22)).alloc (.cells (id.map (Value.int .u8)).toArray 30)) 35 #[.slice A sig.length cs]).alloc (.cells ((List.replicate 32 (0 : Int)).map (Value.int .u8)).toArray 26)
    rwa [show ((w.alloc (.cells #[.int .u32 k] 22)).alloc (.cells (id.map (Value.int .u8)).toArray 30)).heap.size = w.heap.size + 1 + 1 by simp] at this
  have b0 := bb (.cells #[.int .u32 k] 22) (.cells (id.map (Value.int .u8)).toArray 30) (.cells #[.slice A sig.length cs] 35) (.cells ((List.replicate 32 (0 : Int)).map (Value.int .u8)).toArray 26)
  clear bb
  have dm : decide ((manyN k : Int) = 0) = false := decide_eq_false (by have := (kind_wide hk).2.1; omega)
  have dm2 : ((manyN k : Int) == 0) = false := by rw [beq_eq_false_iff_ne]; have := (kind_wide hk).2.1; omega
  have GC := Lib.hid (fun W => chains_any k W)
  rw [chains_many] at GC
  have GS := Lib.hid (fun W => size_any k W)
  have hz0 : sizeN k = ((36 + 32 * manyN k : Nat) : Int) := by unfold sizeN; rw [if_neg (by have := (kind_wide hk).2.1; omega)]; omega
  rw [hz0] at GS
  clear hz0
  have hvl : ((sig.drop 0).take 4).length = 4 := by rw [List.length_take, List.length_drop]; omega
  have GG : Hid (∀ W, Holds W w.heap.size .u8 A sig → Calls Tryd.prog 63 #[.slice A sig.length cs, .int .i64 0, .int .i64 4] W fun e w' => e = .returned (.tuple #[.int .u64 (val ((sig.drop 0).take 4)), .int .i64 0]) ∧ W = w') := Lib.hid (fun W h => get_any A sig cs 0 4 w.heap.size W (by omega) hsk.1 (by decide) (by omega) hsk.2.2.1 h)
  rw [List.drop_zero] at GG
  have hk0 : 0 ≤ k ∧ k ≤ 4 := by unfold KindIn at hk; omega
  have d4 : (val (sig.take 4) != k) = true := by rw [bne_iff_ne]; exact hv
  have d5 : (val (sig.take 4) == k) = false := by rw [beq_eq_false_iff_ne]; exact hv
  generalize val (sig.take 4) = v at *
  generalize 36 + 32 * manyN k = sz at *
  have d1 : ((sig.length : Int) != (sz : Int)) = false := by rw [bne_eq_false_iff_eq]; omega
  have d2 : (sig.length != sz) = false := by rw [bne_eq_false_iff_eq]; omega
  have d3 : (sig.length == sz) = true := by rw [beq_iff_eq]; omega
  have hs2 := hsk.2.2.2
  clear hl hk hv hvl hsk
  generalize manyN k = m at *
  have Hz := Lib.hid (show zeros32.length = 32 from rfl)
  have hBz := build_zeros
  generalize zeros32 = ys at *
  go_enter Tryd.func23, Tryd.ntmps23
  go_wp2_with (go_at_call 16; refine (GC.out _).mono ?_; rintro e w1 ⟨rfl, rfl⟩)
  obtain ⟨W, hW⟩ : ∃ W, ((((w.alloc (.cells #[.int .u32 k] 22)).alloc (.cells (id.map (Value.int .u8)).toArray 30)).alloc (.cells #[.slice A sig.length cs] 35)).alloc (.cells ((List.replicate 32 (0 : Int)).map (Value.int .u8)).toArray 26)) = W := ⟨_, rfl⟩
  change Code.wp _ _ _ _ (World.alloc (World.alloc (World.alloc (World.alloc w _) _) _) (.cells ((List.replicate 32 (0 : Int)).map (Value.int .u8)).toArray 26))
  rw [hW] at r0 k0 i0 s0 b0 ⊢
  clear hW
  have r1 := r0.drewN 1
  have k1 := k0.drewN 1
  have i1 := i0.drewN 1
  have s1 := s0.drewN 1
  have b1 := below_draws b0 1
  clear r0 k0 i0 s0 b0
  refine wp_region_held_drew (S := (fun W => Block W w.heap.size 22 #[.int .u32 k] ∧ Block W (w.heap.size + 1 + 1) 35 #[.slice A sig.length cs])) (by kernel_rfl) ⟨k1, s1⟩ (fun hS => ?_)
  refine wpAnyH_take (i := 0) (oi := ⟨some 20, _, _, _, _, _⟩) (v := .slice A sig.length cs) rfl (by kernel_rfl) (by kernel_rfl) (by kernel_rfl) (fun _ _ _ h => h) (Or.inl ⟨by rfl, fun W hW => by have hc : W.cell? ⟨w.heap.size + 1 + 1, 0, none⟩ = some (.slice A sig.length cs) := hW.2.cell 0; go_simp⟩) hS ?_
  try simp only [Act.put, List.setIfInBounds_toArray, List.set_cons_zero, List.set_cons_succ]
  refine wpAnyH_take (i := 2) (oi := ⟨some 22, _, _, _, _, _⟩) (v := .int .u32 k) rfl (by kernel_rfl) (by kernel_rfl) (by kernel_rfl) (fun _ _ _ h => h) (Or.inl ⟨by rfl, fun W hW => by have hc : W.cell? ⟨w.heap.size, 0, none⟩ = some (.int .u32 k) := hW.1.cell 0; go_simp⟩) hS ?_
  try simp only [Act.put, List.setIfInBounds_toArray, List.set_cons_zero, List.set_cons_succ]
  refine wpAnyH_take (i := 1) (oi := ⟨some 21, _, _, _, _, _⟩) (v := .int .i64 sig.length) rfl (by kernel_rfl) (by kernel_rfl) (by kernel_rfl) (fun _ _ _ h => h) (Or.inl ⟨by rfl, fun W hW => by go_simp⟩) hS ?_
  try simp only [Act.put, List.setIfInBounds_toArray, List.set_cons_zero, List.set_cons_succ]
  obtain ⟨x0, e0⟩ : ∃ x0, x0 = W.drew := ⟨_, rfl⟩
  have kx0 : Block x0 w.heap.size 22 #[.int .u32 k] := by rw [e0]; exact k1
  have ix0 : Arr x0 (w.heap.size + 1) 30 .u8 id := by rw [e0]; exact i1
  have sx0 : Block x0 (w.heap.size + 1 + 1) 35 #[.slice A sig.length cs] := by rw [e0]; exact s1
  have rx0 : Arr x0 (w.heap.size + 1 + 1 + 1) 26 .u8 (List.replicate 32 0) := by rw [e0]; exact r1
  have bx0 : Below w.heap.size w x0 := by rw [e0]; exact b1
  rw [← e0] at hS ⊢
  clear e0 k1 i1 s1 r1 b1
  refine wpAnyH_ready (rs := [3]) (by kernel_rfl) (by simp) ?_
  refine AllReadyH.cons rfl (fun K hK => ?_) AllReadyH.nil
  go_simp
  go_at_call 17
  refine (GS.out _).mono ?_
  rintro e _ ⟨rfl, rfl⟩
  refine hK.out _ _ ⟨kx0, sx0⟩ (fun hS => ?_)
  clear hK K
  try simp only [Act.put, List.setIfInBounds_toArray, List.set_cons_zero, List.set_cons_succ]
  refine wpAnyH_take (i := 4) (oi := ⟨some 24, _, _, _, _, _⟩) (v := .bool false) rfl (by kernel_rfl) (by kernel_rfl) (by kernel_rfl) (fun _ _ _ h => h) (Or.inl ⟨by rfl, fun W hW => by go_simp⟩) hS ?_
  try simp only [Act.put, List.setIfInBounds_toArray, List.set_cons_zero, List.set_cons_succ]
  refine wpAnyH_done (by kernel_rfl) ?_ _
  have hs3 := hs2.below bx0
  have c0 : x0.cell? ⟨w.heap.size, 0, none⟩ = some (.int .u32 k) := kx0.cell 0
  have c1 : x0.cell? ⟨w.heap.size + 1 + 1, 0, none⟩ = some (.slice A sig.length cs) := sx0.cell 0
  go_wp2_with (first
    | (go_at_call 63; refine (GG.out _ hs3).mono ?_; rintro e w1 ⟨rfl, rfl⟩)
    | (refine wpList_build_known rfl _ _ rfl (arrV .u8 ys) (fun W => by simpa using hBz W) ?_)
    | (have _t := rx0; refine wpList_store_arr rfl _ _ _ rfl (ys := ys) rx0 rfl rfl (by rw [Hz.out]; rfl) (by rw [Hz.out]; kernel_rfl) ?_; intro w9 r9 g9))
  refine bodyPost_ret (v := .tuple #[arrV .u8 ys, .int .i64 21]) (results_row_tmp rfl _ _ (w.heap.size + 1 + 1 + 1) 26 _ (0, 0) _ rfl r9 _ rfl arr32D rfl (by rw [show (ys.map (Value.int .u8)).toArray.size = 32 by simp [Hz.out]]; kernel_rfl)) rfl ⟨rfl, ?_⟩
  exact bx0.trans (below_of_grown g9 bx0.size fun b hb => by injection hb with hb; omega)
set_option maxRecDepth 100000 in
set_option maxHeartbeats 6400000 in
theorem cand_in (k : Int) (hk : KindIn k) (id : List Int) (q : Int) (A : Option Addr) (sig : List Int) (cs : Nat) (A2 : Option Addr) (text : List Int) (c2 : Nat) (w : World) (hsm : sig.length ≤ 9000) (hsk : RwOk w w.heap.size ⟨A, cs, sig⟩) (hl : sig.length = 36 + 32 * manyN k) (hv : val (sig.take 4) = k) (hid : id.length = 16) (hio : Octets id) (hq : 0 ≤ q ∧ q < 4294967296) (htx : RwOk w w.heap.size ⟨A2, c2, text⟩) (htl : text.length ≤ 40000) (hL : LaidS w) :
    Calls Tryd.prog 23 #[.int .u32 k, .agg (id.map (Value.int .u8)).toArray, .int .u32 q, .slice A sig.length cs, .slice A2 text.length c2] w (SumsN (candL (nmL id q) k (dgsL (nmL id q) k ((sig.drop 4).take 32) text) sig) 0 w) := by
  have bb : ∀ o p y z, Below w.heap.size w ((((w.alloc o).alloc p).alloc y).alloc z) := fun o p y z => ((below_two' o p).alloc (by simp; omega) y).alloc (by simp; omega) z
  have r0 : Arr ((((w.alloc (.cells #[.int .u32 k] 22)).alloc (.cells (id.map (Value.int .u8)).toArray 30)).alloc (.cells #[.slice A sig.length cs] 35)).alloc (.cells ((List.replicate 32 (0 : Int)).map (Value.int .u8)).toArray 26)) (w.heap.size + 1 + 1 + 1) 26 .u8 (List.replicate 32 0) := by
    have := Arr.new (((w.alloc (.cells #[.int .u32 k] 22)).alloc (.cells (id.map (Value.int .u8)).toArray 30)).alloc (.cells #[.slice A sig.length cs] 35)) 26 .u8 (List.replicate 32 0)
    rwa [show (((w.alloc (.cells #[.int .u32 k] 22)).alloc (.cells (id.map (Value.int .u8)).toArray 30)).alloc (.cells #[.slice A sig.length cs] 35)).heap.size = w.heap.size + 1 + 1 + 1 by simp] at this
  have k0 : Block ((((w.alloc (.cells #[.int .u32 k] 22)).alloc (.cells (id.map (Value.int .u8)).toArray 30)).alloc (.cells #[.slice A sig.length cs] 35)).alloc (.cells ((List.replicate 32 (0 : Int)).map (Value.int .u8)).toArray 26)) w.heap.size 22 #[.int .u32 k] := (((Block.new w _ _).alloc _).alloc _).alloc _
  have i0 : Arr ((((w.alloc (.cells #[.int .u32 k] 22)).alloc (.cells (id.map (Value.int .u8)).toArray 30)).alloc (.cells #[.slice A sig.length cs] 35)).alloc (.cells ((List.replicate 32 (0 : Int)).map (Value.int .u8)).toArray 26)) (w.heap.size + 1) 30 .u8 id := by
    have := ((Arr.new (w.alloc (.cells #[.int .u32 k] 22)) 30 .u8 id).alloc (.cells #[.slice A sig.length cs] 35)).alloc (.cells ((List.replicate 32 (0 : Int)).map (Value.int .u8)).toArray 26)
    rwa [show (w.alloc (.cells #[.int .u32 k] 22)).heap.size = w.heap.size + 1 by simp] at this
  have s0 : Block ((((w.alloc (.cells #[.int .u32 k] 22)).alloc (.cells (id.map (Value.int .u8)).toArray 30)).alloc (.cells #[.slice A sig.length cs] 35)).alloc (.cells ((List.replicate 32 (0 : Int)).map (Value.int .u8)).toArray 26)) (w.heap.size + 1 + 1) 35 #[.slice A sig.length cs] := by
    have := (Block.new ((w.alloc (.cells #[.int .u32 k] 22)).alloc (.cells (id.map (Value.int .u8)).toArray 30)) 35 #[.slice A sig.length cs]).alloc (.cells ((List.replicate 32 (0 : Int)).map (Value.int .u8)).toArray 26)
    rwa [show ((w.alloc (.cells #[.int .u32 k] 22)).alloc (.cells (id.map (Value.int .u8)).toArray 30)).heap.size = w.heap.size + 1 + 1 by simp] at this
  have b0 := bb (.cells #[.int .u32 k] 22) (.cells (id.map (Value.int .u8)).toArray 30) (.cells #[.slice A sig.length cs] 35) (.cells ((List.replicate 32 (0 : Int)).map (Value.int .u8)).toArray 26)
  clear bb
  have dm : decide ((manyN k : Int) = 0) = false := decide_eq_false (by have := (kind_wide hk).2.1; omega)
  have dm2 : ((manyN k : Int) == 0) = false := by rw [beq_eq_false_iff_ne]; have := (kind_wide hk).2.1; omega
  have GC := Lib.hid (fun W => chains_any k W)
  rw [chains_many] at GC
  have GS := Lib.hid (fun W => size_any k W)
  have hz0 : sizeN k = ((36 + 32 * manyN k : Nat) : Int) := by unfold sizeN; rw [if_neg (by have := (kind_wide hk).2.1; omega)]; omega
  rw [hz0] at GS
  clear hz0
  have hvl : ((sig.drop 0).take 4).length = 4 := by rw [List.length_take, List.length_drop]; omega
  have GG : Hid (∀ W, Holds W w.heap.size .u8 A sig → Calls Tryd.prog 63 #[.slice A sig.length cs, .int .i64 0, .int .i64 4] W fun e w' => e = .returned (.tuple #[.int .u64 (val ((sig.drop 0).take 4)), .int .i64 0]) ∧ W = w') := Lib.hid (fun W h => get_any A sig cs 0 4 w.heap.size W (by omega) hsk.1 (by decide) (by omega) hsk.2.2.1 h)
  rw [List.drop_zero] at GG
  have hk0 : 0 ≤ k ∧ k ≤ 4 := by unfold KindIn at hk; omega
  rw [hv] at GG
  have d4 : (k != k) = false := by rw [bne_eq_false_iff_eq]
  have hmb := manyN_bd k
  obtain ⟨bs, os, rfl, hbs, hsc⟩ := hsk.2.2.2 (by show 0 < sig.length; omega)
  have hnl := nmL_length (q := q) hid
  have hno := nmL_octets (q := q) hio
  have GN := Lib.hid (fun W => nameOf_any id hid hio q hq W)
  have hml : ((sig.drop 4).take 32).length = 32 := by rw [List.length_take, List.length_drop]; omega
  have GD := Lib.hid (fun W (h1 : RwOk W W.heap.size ⟨some ⟨bs, os + 4, none⟩, cs - 4, (sig.drop 4).take 32⟩) (h2 : RwOk W W.heap.size ⟨A2, c2, text⟩) (hB : Below w.heap.size w W) => ndigits_any (nmL id q) hnl hno k hk (some ⟨bs, os + 4, none⟩) ((sig.drop 4).take 32) (cs - 4) A2 text c2 W h1 h2 (by rw [hml]; decide) (by omega) (hL.below hB))
  rw [hml] at GD
  have hdl := dgsL_length hk (nmL id q) ((sig.drop 4).take 32) text
  have hdb := dgsL_bd hk (nmL id q) ((sig.drop 4).take 32) text
  generalize hds : dgsL (nmL id q) k ((sig.drop 4).take 32) text = ds at *
  clear hds
  have HDL := Lib.hid hdl
  have GP : Hid (∀ W (p1 p2 p3 p4 bd od cd : Nat), W.cell? ⟨p1, 0, none⟩ = some (.slice (some ⟨bs, os, none⟩) sig.length cs) → Arr W p2 78 .u8 (nmL id q) → W.cell? ⟨p3, 0, none⟩ = some (.slice (some ⟨bd, od, none⟩) ds.length cd) → ds.length ≤ cd → Holds W W.heap.size .i64 (some ⟨bd, od, none⟩) ds → W.cell? ⟨p4, 0, none⟩ = some (.int .u32 k) → Below w.heap.size w W → Calls Tryd.prog 49 #[.agg ((nmL id q).map (Value.int .u8)).toArray, .int .u32 k, .func (.func 64) #[] #[.pointer (some ⟨p1, 0, none⟩), .pointer (some ⟨p2, 0, none⟩), .pointer (some ⟨p3, 0, none⟩), .pointer (some ⟨p4, 0, none⟩)]] W (Sums (candL (nmL id q) k ds sig) W)) := Lib.hid (fun W p1 p2 p3 p4 bd od cd hA hB hC hc2 hD hE hW =>
    public4_any (nmL id q) hnl hno k hk p1 p2 p3 p4 (cendL (nmL id q) k ds sig) (fun j hj => walkL_d32 (placeL_d32 hsk.2.2.1 (by show 36 + 32 * (j + 1) ≤ sig.length; omega))) W (hL.below hW) (fun j W' hj hb => by
      obtain ⟨b', o', e', hb', hc'⟩ := hD (by omega)
      injection e' with e'
      injection e' with e1 e2
      subst e1 e2
      have hjd : ds.getD j 0 ∈ ds := by rw [List.getD, List.getElem?_eq_getElem (by omega)]; exact List.getElem_mem _
      exact cand1_any (nmL id q) hnl hno k hk bs os cs sig bd od cd ds p1 p2 p3 p4 j W' (hL.below (hW.trans (hb.mono hW.size))) (by omega) (by omega) hsm hsk.2.2.1 (hdb _ hjd) hsk.1 hsk.2.1 hc2
        ((hb.cell (p := ⟨p1, 0, none⟩) (World.block_lt_of_cell? W _ hA)).trans hA) (((hsk.2.2.2.below hW).more hW.size).on hb) (Block.below hB hb (Block.lt hB)) ((hb.cell (p := ⟨p3, 0, none⟩) (World.block_lt_of_cell? W _ hC)).trans hC) ((hb.cell (p := ⟨bd, od + j, none⟩) hb').trans (hc' j (by omega))) ((hb.cell (p := ⟨p4, 0, none⟩) (World.block_lt_of_cell? W _ hE)).trans hE)))
  rw [hdl] at GP
  have hyl := Lib.hid (show (candL (nmL id q) k ds sig).length = 32 from sumL_length _)
  generalize candL (nmL id q) k ds sig = ys at *
  have HI := Lib.hid hid
  have HNl := Lib.hid hnl
  generalize nmL id q = nm at *
  have hsl36 : 36 ≤ sig.length := by omega
  have hcs1 := hsk.1
  simp only at hcs1
  have hcs2 : cs ≤ maxLen := hsk.2.1
  unfold maxLen at hcs2
  generalize 36 + 32 * manyN k = sz at *
  have d1 : ((sig.length : Int) != (sz : Int)) = false := by rw [bne_eq_false_iff_eq]; omega
  have d2 : (sig.length != sz) = false := by rw [bne_eq_false_iff_eq]; omega
  have d3 : (sig.length == sz) = true := by rw [beq_iff_eq]; omega
  have hm1 := (kind_wide hk).2.1
  have hs2 : Holds w w.heap.size .u8 (some ⟨bs, os, none⟩) sig := hsk.2.2.2
  have hmd := RwOk.mid hsk 4 32 (by show 4 + 32 ≤ sig.length; omega)
  clear hl hk hv hvl hsk hsc hdl hdb hno hnl hio hid hml
  generalize (sig.drop 4).take 32 = salt at *
  generalize manyN k = m at *
  go_enter Tryd.func23, Tryd.ntmps23
  go_wp2_with (go_at_call 16; refine (GC.out _).mono ?_; rintro e w1 ⟨rfl, rfl⟩)
  obtain ⟨W, hW⟩ : ∃ W, ((((w.alloc (.cells #[.int .u32 k] 22)).alloc (.cells (id.map (Value.int .u8)).toArray 30)).alloc (.cells #[.slice (some ⟨bs, os, none⟩) sig.length cs] 35)).alloc (.cells ((List.replicate 32 (0 : Int)).map (Value.int .u8)).toArray 26)) = W := ⟨_, rfl⟩
  change Code.wp _ _ _ _ (World.alloc (World.alloc (World.alloc (World.alloc w _) _) _) (.cells ((List.replicate 32 (0 : Int)).map (Value.int .u8)).toArray 26))
  rw [hW] at r0 k0 i0 s0 b0 ⊢
  clear hW
  have r1 := r0.drewN 1
  have k1 := k0.drewN 1
  have i1 := i0.drewN 1
  have s1 := s0.drewN 1
  have b1 := below_draws b0 1
  clear r0 k0 i0 s0 b0
  refine wp_region_held_drew (S := (fun W => Block W w.heap.size 22 #[.int .u32 k] ∧ Block W (w.heap.size + 1 + 1) 35 #[.slice (some ⟨bs, os, none⟩) sig.length cs])) (by kernel_rfl) ⟨k1, s1⟩ (fun hS => ?_)
  refine wpAnyH_take (i := 0) (oi := ⟨some 20, _, _, _, _, _⟩) (v := .slice (some ⟨bs, os, none⟩) sig.length cs) rfl (by kernel_rfl) (by kernel_rfl) (by kernel_rfl) (fun _ _ _ h => h) (Or.inl ⟨by rfl, fun W hW => by have hc : W.cell? ⟨w.heap.size + 1 + 1, 0, none⟩ = some (.slice (some ⟨bs, os, none⟩) sig.length cs) := hW.2.cell 0; go_simp⟩) hS ?_
  try simp only [Act.put, List.setIfInBounds_toArray, List.set_cons_zero, List.set_cons_succ]
  refine wpAnyH_take (i := 2) (oi := ⟨some 22, _, _, _, _, _⟩) (v := .int .u32 k) rfl (by kernel_rfl) (by kernel_rfl) (by kernel_rfl) (fun _ _ _ h => h) (Or.inl ⟨by rfl, fun W hW => by have hc : W.cell? ⟨w.heap.size, 0, none⟩ = some (.int .u32 k) := hW.1.cell 0; go_simp⟩) hS ?_
  try simp only [Act.put, List.setIfInBounds_toArray, List.set_cons_zero, List.set_cons_succ]
  refine wpAnyH_take (i := 1) (oi := ⟨some 21, _, _, _, _, _⟩) (v := .int .i64 sig.length) rfl (by kernel_rfl) (by kernel_rfl) (by kernel_rfl) (fun _ _ _ h => h) (Or.inl ⟨by rfl, fun W hW => by go_simp⟩) hS ?_
  try simp only [Act.put, List.setIfInBounds_toArray, List.set_cons_zero, List.set_cons_succ]
  obtain ⟨x0, e0⟩ : ∃ x0, x0 = W.drew := ⟨_, rfl⟩
  have kx0 : Block x0 w.heap.size 22 #[.int .u32 k] := by rw [e0]; exact k1
  have ix0 : Arr x0 (w.heap.size + 1) 30 .u8 id := by rw [e0]; exact i1
  have sx0 : Block x0 (w.heap.size + 1 + 1) 35 #[.slice (some ⟨bs, os, none⟩) sig.length cs] := by rw [e0]; exact s1
  have rx0 : Arr x0 (w.heap.size + 1 + 1 + 1) 26 .u8 (List.replicate 32 0) := by rw [e0]; exact r1
  have bx0 : Below w.heap.size w x0 := by rw [e0]; exact b1
  rw [← e0] at hS ⊢
  clear e0 k1 i1 s1 r1 b1
  refine wpAnyH_ready (rs := [3]) (by kernel_rfl) (by simp) ?_
  refine AllReadyH.cons rfl (fun K hK => ?_) AllReadyH.nil
  go_simp
  go_at_call 17
  refine (GS.out _).mono ?_
  rintro e _ ⟨rfl, rfl⟩
  refine hK.out _ _ ⟨kx0, sx0⟩ (fun hS => ?_)
  clear hK K
  try simp only [Act.put, List.setIfInBounds_toArray, List.set_cons_zero, List.set_cons_succ]
  refine wpAnyH_take (i := 4) (oi := ⟨some 24, _, _, _, _, _⟩) (v := .bool false) rfl (by kernel_rfl) (by kernel_rfl) (by kernel_rfl) (fun _ _ _ h => h) (Or.inl ⟨by rfl, fun W hW => by go_simp⟩) hS ?_
  try simp only [Act.put, List.setIfInBounds_toArray, List.set_cons_zero, List.set_cons_succ]
  refine wpAnyH_done (by kernel_rfl) ?_ _
  have hs3 := hs2.below bx0
  have c0 : x0.cell? ⟨w.heap.size, 0, none⟩ = some (.int .u32 k) := kx0.cell 0
  have c1 : x0.cell? ⟨w.heap.size + 1 + 1, 0, none⟩ = some (.slice (some ⟨bs, os, none⟩) sig.length cs) := sx0.cell 0
  go_wp2_with (first
    | (go_at_call 63; refine (GG.out _ hs3).mono ?_; rintro e w1 ⟨rfl, rfl⟩)
    | (have _t := ix0; refine wpList_load_arr rfl _ _ rfl ix0 rfl arr16I rfl (by rw [HI.out]; kernel_rfl) ?_)
    | (have _t := bx0; go_at_call 48; refine (GN.out _).mono ?_; clear _t; rintro e w2 ⟨rfl, hb⟩
       have k2 : Block w2 w.heap.size 22 #[.int .u32 k] := Block.below kx0 hb (Block.lt kx0)
       have s2 : Block w2 (w.heap.size + 1 + 1) 35 #[.slice (some ⟨bs, os, none⟩) sig.length cs] := Block.below sx0 hb (Block.lt sx0)
       have r2 : Arr w2 (w.heap.size + 1 + 1 + 1) 26 .u8 (List.replicate 32 0) := Block.below rx0 hb (Block.lt rx0)
       have b2 := bx0.trans (hb.mono bx0.size)
       have z2 : Arr (w2.alloc (.cells ((List.replicate 20 (0 : Int)).map (Value.int .u8)).toArray 78)) w2.heap.size 78 .u8 (List.replicate 20 0) := Arr.new w2 78 .u8 (List.replicate 20 0)
       clear kx0 sx0 rx0 bx0 hb ix0)
    | (have _t := z2; refine wpList_store_arr rfl _ _ _ rfl (ys := nm) z2 rfl rfl (by rw [HNl.out]; rfl) (by rw [HNl.out]; kernel_rfl) ?_; clear _t; intro w3 n3 g3
       have hb3 : Below w2.heap.size w2 w3 := below_fill (Below.refl _ _) (Nat.le_refl _) g3
       have k3 : Block w3 w.heap.size 22 #[.int .u32 k] := Block.below k2 hb3 (Block.lt k2)
       have s3 : Block w3 (w.heap.size + 1 + 1) 35 #[.slice (some ⟨bs, os, none⟩) sig.length cs] := Block.below s2 hb3 (Block.lt s2)
       have r3 : Arr w3 (w.heap.size + 1 + 1 + 1) 26 .u8 (List.replicate 32 0) := Block.below r2 hb3 (Block.lt r2)
       have b3 := b2.trans (hb3.mono b2.size)
       clear z2 k2 s2 r2 b2 g3 hb3))
  have nlt : w.heap.size + 1 + 1 + 1 < w2.heap.size ∨ w2.heap.size ≤ w.heap.size + 1 + 1 + 1 := by omega
  generalize w2.heap.size = nb at *
  have n4 := n3.drewN 1
  have k4 := k3.drewN 1
  have s4 := s3.drewN 1
  have r4 := r3.drewN 1
  have b4 := below_draws b3 1
  have t4 := (htx.below b4).more b4.size
  have h4 := (hmd.below b4).more b4.size
  clear n3 k3 s3 r3 b3 htx hmd nlt
  refine wp_region_held_drew (S := (fun W => Arr W nb 78 .u8 nm ∧ Block W w.heap.size 22 #[.int .u32 k] ∧ Block W (w.heap.size + 1 + 1) 35 #[.slice (some ⟨bs, os, none⟩) sig.length cs])) (by kernel_rfl) ⟨n4, k4, s4⟩ (fun hS => ?_)
  refine wpAnyH_take (i := 0) (v := .agg (nm.map (Value.int .u8)).toArray) rfl (by kernel_rfl) (by kernel_rfl) (by kernel_rfl) (fun _ _ _ h => h) (yieldsIf_load_mid (by rfl) _ _ rfl nb 0 rfl (nm.map (Value.int .u8)) _ (fun W hW => Arr.range hW.1) arr20 rfl (by rw [List.length_map, HNl.out]; kernel_rfl)) hS ?_
  try simp only [Act.put, List.setIfInBounds_toArray, List.set_cons_zero, List.set_cons_succ]
  refine wpAnyH_take (i := 1) (oi := ⟨some 40, _, _, _, _, _⟩) (v := .int .u32 k) rfl (by kernel_rfl) (by kernel_rfl) (by kernel_rfl) (fun _ _ _ h => h) (Or.inl ⟨by rfl, fun W hW => by have hc : W.cell? ⟨w.heap.size, 0, none⟩ = some (.int .u32 k) := hW.2.1.cell 0; go_simp⟩) hS ?_
  try simp only [Act.put, List.setIfInBounds_toArray, List.set_cons_zero, List.set_cons_succ]
  refine wpAnyH_take (i := 2) (oi := ⟨some 41, _, _, _, _, _⟩) (v := .slice (some ⟨bs, os, none⟩) sig.length cs) rfl (by kernel_rfl) (by kernel_rfl) (by kernel_rfl) (fun _ _ _ h => h) (Or.inl ⟨by rfl, fun W hW => by have hc : W.cell? ⟨w.heap.size + 1 + 1, 0, none⟩ = some (.slice (some ⟨bs, os, none⟩) sig.length cs) := hW.2.2.cell 0; go_simp⟩) hS ?_
  try simp only [Act.put, List.setIfInBounds_toArray, List.set_cons_zero, List.set_cons_succ]
  refine wpAnyH_take (i := 4) (oi := ⟨some 43, _, _, _, _, _⟩) (v := .slice A2 text.length c2) rfl (by kernel_rfl) (by kernel_rfl) (by kernel_rfl) (fun _ _ _ h => h) (Or.inl ⟨by rfl, fun W hW => by go_simp⟩) hS ?_
  try simp only [Act.put, List.setIfInBounds_toArray, List.set_cons_zero, List.set_cons_succ]
  refine wpAnyH_take (i := 3) (oi := ⟨some 42, _, _, _, _, _⟩) (v := .slice (some ⟨bs, os + 4, none⟩) 32 (cs - 4)) rfl (by kernel_rfl) (by kernel_rfl) (by kernel_rfl) (fun _ _ _ h => h) (Or.inl ⟨by rfl, fun W hW => by go_simp; rw [if_pos (by omega), if_neg (by omega)]⟩) hS ?_
  try simp only [Act.put, List.setIfInBounds_toArray, List.set_cons_zero, List.set_cons_succ]
  obtain ⟨x0, e0⟩ : ∃ x0, x0 = w3.drew := ⟨_, rfl⟩
  have nx0 : Arr x0 nb 78 .u8 nm := by rw [e0]; exact n4
  have kx0 : Block x0 w.heap.size 22 #[.int .u32 k] := by rw [e0]; exact k4
  have sx0 : Block x0 (w.heap.size + 1 + 1) 35 #[.slice (some ⟨bs, os, none⟩) sig.length cs] := by rw [e0]; exact s4
  have rx0 : Arr x0 (w.heap.size + 1 + 1 + 1) 26 .u8 (List.replicate 32 0) := by rw [e0]; exact r4
  have bx0 : Below w.heap.size w x0 := by rw [e0]; exact b4
  have tx0 : RwOk x0 x0.heap.size ⟨A2, c2, text⟩ := by rw [e0]; exact t4
  have hx0 : RwOk x0 x0.heap.size ⟨some ⟨bs, os + 4, none⟩, cs - 4, salt⟩ := by rw [e0]; exact h4
  rw [← e0] at hS ⊢
  clear e0 n4 k4 s4 r4 b4 t4 h4
  refine wpAnyH_ready (rs := [5, 6]) (by kernel_rfl) (by simp) ?_
  refine AllReadyH.cons rfl (fun K hK => ?_) (AllReadyH.cons rfl (fun K hK => ?_) AllReadyH.nil)
  · go_simp
    go_at_call 60
    refine (GD.out _ hx0 tx0 bx0).mono ?_
    rintro e x1 ⟨A5, c5, rfl, k5, m5, h5, _, h⟩
    have nx1 : Arr x1 nb 78 .u8 nm := Block.below nx0 h (Block.lt nx0)
    have kx1 : Block x1 w.heap.size 22 #[.int .u32 k] := Block.below kx0 h (Block.lt kx0)
    have sx1 : Block x1 (w.heap.size + 1 + 1) 35 #[.slice (some ⟨bs, os, none⟩) sig.length cs] := Block.below sx0 h (Block.lt sx0)
    have rx1 : Arr x1 (w.heap.size + 1 + 1 + 1) 26 .u8 (List.replicate 32 0) := Block.below rx0 h (Block.lt rx0)
    have bx1 : Below w.heap.size w x1 := bx0.trans (h.mono bx0.size)
    have tx1 : RwOk x1 x1.heap.size ⟨A2, c2, text⟩ := RwOk.on tx0 h
    have hx1 : RwOk x1 x1.heap.size ⟨some ⟨bs, os + 4, none⟩, cs - 4, salt⟩ := RwOk.on hx0 h
    obtain ⟨bd, od, rfl, hbd, hdc⟩ := h5 (by rw [HDL.out]; omega)
    have h5x1 : Holds x1 x1.heap.size .i64 (some ⟨bd, od, none⟩) ds := h5
    clear hdc hbd
    rw [HDL.out]
    refine hK.out _ _ ⟨nx1, kx1, sx1⟩ (fun hS => ?_)
    clear hK K
    try simp only [Act.put, List.setIfInBounds_toArray, List.set_cons_zero, List.set_cons_succ]
    have m1 := Block.lt nx1
    have m2 := Block.lt kx1
    have m3 := Block.lt sx1
    have m4 := Block.lt rx1
    have m5 := bx1.size
    refine wpAnyH_ready (rs := [6]) (by kernel_rfl) (by simp) ?_
    refine AllReadyH.cons rfl (fun K hK => ?_) AllReadyH.nil
    go_simp
    have h := below_last x1 (.cells #[.slice none 0 0] 76)
    have nz : Block (x1.alloc (.cells #[.slice none 0 0] 76)) x1.heap.size 76 #[.slice none 0 0] := Block.new x1 _ _
    generalize hgen : x1.alloc (.cells #[.slice none 0 0] 76) = x2 at *
    have nx2 : Arr x2 nb 78 .u8 nm := Block.below nx1 h (Block.lt nx1)
    have kx2 : Block x2 w.heap.size 22 #[.int .u32 k] := Block.below kx1 h (Block.lt kx1)
    have sx2 : Block x2 (w.heap.size + 1 + 1) 35 #[.slice (some ⟨bs, os, none⟩) sig.length cs] := Block.below sx1 h (Block.lt sx1)
    have rx2 : Arr x2 (w.heap.size + 1 + 1 + 1) 26 .u8 (List.replicate 32 0) := Block.below rx1 h (Block.lt rx1)
    have bx2 : Below w.heap.size w x2 := bx1.trans (h.mono bx1.size)
    have tx2 : RwOk x2 x2.heap.size ⟨A2, c2, text⟩ := RwOk.on tx1 h
    have hx2 : RwOk x2 x2.heap.size ⟨some ⟨bs, os + 4, none⟩, cs - 4, salt⟩ := RwOk.on hx1 h
    have h5x2 : Holds x2 x2.heap.size .i64 (some ⟨bd, od, none⟩) ds := Holds.on h5x1 h
    have zx2 : Block x2 x1.heap.size 76 #[.slice none 0 0] := nz
    clear hgen h nz
    refine hK.out _ _ ⟨nx2, kx2, sx2⟩ (fun hS => ?_)
    clear hK K
    try simp only [Act.put, List.setIfInBounds_toArray, List.set_cons_zero, List.set_cons_succ]
    refine wpAnyH_ready (rs := [7]) (by kernel_rfl) (by simp) ?_
    refine AllReadyH.cons rfl (fun K hK => ?_) AllReadyH.nil
    have nz : bd ≠ x1.heap.size := by obtain ⟨_, _, e, h, _⟩ := h5x1 (by rw [HDL.out]; omega); injection e with e; injection e with e1 _; omega
    have hc : x2.cell? ⟨x1.heap.size, 0, none⟩ = some (.slice none 0 0) := zx2.cell 0
    have hf := zx2.frozen 0
    have l1 := Block.lt nx2
    have l2 := Block.lt kx2
    have l3 := Block.lt sx2
    have l4 := Block.lt rx2
    go_simp
    have g9 := grown_cell x2 x1.heap.size 0 (.slice (some ⟨bd, od, none⟩) m c5)
    have zx3 := zx2.set_ 0 (.slice (some ⟨bd, od, none⟩) m c5)
    generalize x2.setCell ⟨x1.heap.size, 0, none⟩ (.slice (some ⟨bd, od, none⟩) m c5) = x3 at *
    have nx3 : Arr x3 nb 78 .u8 nm := Block.grown nx2 g9 (by intro e; injection e with e; omega)
    have kx3 : Block x3 w.heap.size 22 #[.int .u32 k] := Block.grown kx2 g9 (by intro e; injection e with e; omega)
    have sx3 : Block x3 (w.heap.size + 1 + 1) 35 #[.slice (some ⟨bs, os, none⟩) sig.length cs] := Block.grown sx2 g9 (by intro e; injection e with e; omega)
    have rx3 : Arr x3 (w.heap.size + 1 + 1 + 1) 26 .u8 (List.replicate 32 0) := Block.grown rx2 g9 (by intro e; injection e with e; omega)
    have bx3 : Below w.heap.size w x3 := bx2.trans (below_of_grown g9 bx2.size fun b hb => by injection hb with hb; omega)
    have h5x3 : Holds x3 x3.heap.size .i64 (some ⟨bd, od, none⟩) ds := (Holds.grown h5x2 g9 (fun a ha => by injection ha with ha; subst ha; intro e; injection e with e; exact nz e)).more g9.size
    refine hK.out _ _ ⟨nx3, kx3, sx3⟩ (fun hS => ?_)
    clear hK K
    try simp only [Act.put, List.setIfInBounds_toArray, List.set_cons_zero, List.set_cons_succ]
    refine wpAnyH_done (by kernel_rfl) ?_ _
    have c5a : x3.cell? ⟨x1.heap.size, 0, none⟩ = some (.slice (some ⟨bd, od, none⟩) m c5) := zx3.cell 0
    have c6a : x3.cell? ⟨w.heap.size, 0, none⟩ = some (.int .u32 k) := kx3.cell 0
    have c7a : x3.cell? ⟨w.heap.size + 1 + 1, 0, none⟩ = some (.slice (some ⟨bs, os, none⟩) sig.length cs) := sx3.cell 0
    have hm5 : m ≤ c5 := by rw [← HDL.out]; exact k5
    have G := Lib.hid (GP.out x3 (w.heap.size + 1 + 1) nb x1.heap.size w.heap.size bd od c5 c7a nx3 c5a hm5 h5x3 c6a bx3)
    go_wp2_with (first
      | (have _t := nx3; refine wpList_load_arr rfl _ _ rfl nx3 rfl arr20 rfl (by rw [HNl.out]; kernel_rfl) ?_)
      | (have _t := G; go_at_call 49; refine G.out.mono ?_; clear _t; rintro e w4 ⟨rfl, hb⟩
         have r4 : Arr w4 (w.heap.size + 1 + 1 + 1) 26 .u8 (List.replicate 32 0) := Block.below rx3 hb (Block.lt rx3)
         have b4 := bx3.trans (hb.mono bx3.size)
         clear G hb)
      | (have _t := r4; refine wpList_store_arr rfl _ _ _ rfl (ys := ys) r4 rfl rfl (by rw [hyl.out]; rfl) (by rw [hyl.out]; kernel_rfl) ?_; intro w9 r9 g9))
    refine bodyPost_ret (v := .tuple #[arrV .u8 ys, .int .i64 0]) (results_row_tmp rfl _ _ (w.heap.size + 1 + 1 + 1) 26 _ (0, 0) _ rfl r9 _ rfl arr32D rfl (by rw [show (ys.map (Value.int .u8)).toArray.size = 32 by simp [hyl.out]]; kernel_rfl)) rfl ⟨rfl, ?_⟩
    exact b4.trans (below_of_grown g9 b4.size fun b hb => by injection hb with hb; omega)
  · have m1 := Block.lt nx0
    have m2 := Block.lt kx0
    have m3 := Block.lt sx0
    have m4 := Block.lt rx0
    have m5 := bx0.size
    go_simp
    have h := below_last x0 (.cells #[.slice none 0 0] 76)
    have nz : Block (x0.alloc (.cells #[.slice none 0 0] 76)) x0.heap.size 76 #[.slice none 0 0] := Block.new x0 _ _
    generalize hgen : x0.alloc (.cells #[.slice none 0 0] 76) = x1 at *
    have nx1 : Arr x1 nb 78 .u8 nm := Block.below nx0 h (Block.lt nx0)
    have kx1 : Block x1 w.heap.size 22 #[.int .u32 k] := Block.below kx0 h (Block.lt kx0)
    have sx1 : Block x1 (w.heap.size + 1 + 1) 35 #[.slice (some ⟨bs, os, none⟩) sig.length cs] := Block.below sx0 h (Block.lt sx0)
    have rx1 : Arr x1 (w.heap.size + 1 + 1 + 1) 26 .u8 (List.replicate 32 0) := Block.below rx0 h (Block.lt rx0)
    have bx1 : Below w.heap.size w x1 := bx0.trans (h.mono bx0.size)
    have tx1 : RwOk x1 x1.heap.size ⟨A2, c2, text⟩ := RwOk.on tx0 h
    have hx1 : RwOk x1 x1.heap.size ⟨some ⟨bs, os + 4, none⟩, cs - 4, salt⟩ := RwOk.on hx0 h
    have zx1 : Block x1 x0.heap.size 76 #[.slice none 0 0] := nz
    clear hgen h nz
    refine hK.out _ _ ⟨nx1, kx1, sx1⟩ (fun hS => ?_)
    clear hK K
    try simp only [Act.put, List.setIfInBounds_toArray, List.set_cons_zero, List.set_cons_succ]
    refine wpAnyH_ready (rs := [5]) (by kernel_rfl) (by simp) ?_
    refine AllReadyH.cons rfl (fun K hK => ?_) AllReadyH.nil
    go_simp
    go_at_call 60
    refine (GD.out _ hx1 tx1 bx1).mono ?_
    rintro e x2 ⟨A5, c5, rfl, k5, m5, h5, _, h⟩
    have nx2 : Arr x2 nb 78 .u8 nm := Block.below nx1 h (Block.lt nx1)
    have kx2 : Block x2 w.heap.size 22 #[.int .u32 k] := Block.below kx1 h (Block.lt kx1)
    have sx2 : Block x2 (w.heap.size + 1 + 1) 35 #[.slice (some ⟨bs, os, none⟩) sig.length cs] := Block.below sx1 h (Block.lt sx1)
    have rx2 : Arr x2 (w.heap.size + 1 + 1 + 1) 26 .u8 (List.replicate 32 0) := Block.below rx1 h (Block.lt rx1)
    have bx2 : Below w.heap.size w x2 := bx1.trans (h.mono bx1.size)
    have tx2 : RwOk x2 x2.heap.size ⟨A2, c2, text⟩ := RwOk.on tx1 h
    have hx2 : RwOk x2 x2.heap.size ⟨some ⟨bs, os + 4, none⟩, cs - 4, salt⟩ := RwOk.on hx1 h
    have zx2 : Block x2 x0.heap.size 76 #[.slice none 0 0] := Block.below zx1 h (Block.lt zx1)
    obtain ⟨bd, od, rfl, hbd, hdc⟩ := h5 (by rw [HDL.out]; omega)
    have h5x2 : Holds x2 x2.heap.size .i64 (some ⟨bd, od, none⟩) ds := h5
    clear hdc hbd
    rw [HDL.out]
    refine hK.out _ _ ⟨nx2, kx2, sx2⟩ (fun hS => ?_)
    clear hK K
    try simp only [Act.put, List.setIfInBounds_toArray, List.set_cons_zero, List.set_cons_succ]
    refine wpAnyH_ready (rs := [7]) (by kernel_rfl) (by simp) ?_
    refine AllReadyH.cons rfl (fun K hK => ?_) AllReadyH.nil
    have nz : bd ≠ x0.heap.size := by
      intro e
      obtain ⟨b9, o9, e9, _, hc9⟩ := h5x2 (by rw [HDL.out]; omega)
      injection e9 with e9
      injection e9 with e1 e2
      subst e1 e2
      have hc0 := hc9 0 (by rw [HDL.out]; omega)
      rw [e, zx2.cell] at hc0
      rcases od with _ | od
      · simp at hc0
      · simp at hc0
    have hc : x2.cell? ⟨x0.heap.size, 0, none⟩ = some (.slice none 0 0) := zx2.cell 0
    have hf := zx2.frozen 0
    have l1 := Block.lt nx2
    have l2 := Block.lt kx2
    have l3 := Block.lt sx2
    have l4 := Block.lt rx2
    go_simp
    have g9 := grown_cell x2 x0.heap.size 0 (.slice (some ⟨bd, od, none⟩) m c5)
    have zx3 := zx2.set_ 0 (.slice (some ⟨bd, od, none⟩) m c5)
    generalize x2.setCell ⟨x0.heap.size, 0, none⟩ (.slice (some ⟨bd, od, none⟩) m c5) = x3 at *
    have nx3 : Arr x3 nb 78 .u8 nm := Block.grown nx2 g9 (by intro e; injection e with e; omega)
    have kx3 : Block x3 w.heap.size 22 #[.int .u32 k] := Block.grown kx2 g9 (by intro e; injection e with e; omega)
    have sx3 : Block x3 (w.heap.size + 1 + 1) 35 #[.slice (some ⟨bs, os, none⟩) sig.length cs] := Block.grown sx2 g9 (by intro e; injection e with e; omega)
    have rx3 : Arr x3 (w.heap.size + 1 + 1 + 1) 26 .u8 (List.replicate 32 0) := Block.grown rx2 g9 (by intro e; injection e with e; omega)
    have bx3 : Below w.heap.size w x3 := bx2.trans (below_of_grown g9 bx2.size fun b hb => by injection hb with hb; omega)
    have h5x3 : Holds x3 x3.heap.size .i64 (some ⟨bd, od, none⟩) ds := (Holds.grown h5x2 g9 (fun a ha => by injection ha with ha; subst ha; intro e; injection e with e; exact nz e)).more g9.size
    refine hK.out _ _ ⟨nx3, kx3, sx3⟩ (fun hS => ?_)
    clear hK K
    try simp only [Act.put, List.setIfInBounds_toArray, List.set_cons_zero, List.set_cons_succ]
    refine wpAnyH_done (by kernel_rfl) ?_ _
    have c5a : x3.cell? ⟨x0.heap.size, 0, none⟩ = some (.slice (some ⟨bd, od, none⟩) m c5) := zx3.cell 0
    have c6a : x3.cell? ⟨w.heap.size, 0, none⟩ = some (.int .u32 k) := kx3.cell 0
    have c7a : x3.cell? ⟨w.heap.size + 1 + 1, 0, none⟩ = some (.slice (some ⟨bs, os, none⟩) sig.length cs) := sx3.cell 0
    have hm5 : m ≤ c5 := by rw [← HDL.out]; exact k5
    have G := Lib.hid (GP.out x3 (w.heap.size + 1 + 1) nb x0.heap.size w.heap.size bd od c5 c7a nx3 c5a hm5 h5x3 c6a bx3)
    go_wp2_with (first
      | (have _t := nx3; refine wpList_load_arr rfl _ _ rfl nx3 rfl arr20 rfl (by rw [HNl.out]; kernel_rfl) ?_)
      | (have _t := G; go_at_call 49; refine G.out.mono ?_; clear _t; rintro e w4 ⟨rfl, hb⟩
         have r4 : Arr w4 (w.heap.size + 1 + 1 + 1) 26 .u8 (List.replicate 32 0) := Block.below rx3 hb (Block.lt rx3)
         have b4 := bx3.trans (hb.mono bx3.size)
         clear G hb)
      | (have _t := r4; refine wpList_store_arr rfl _ _ _ rfl (ys := ys) r4 rfl rfl (by rw [hyl.out]; rfl) (by rw [hyl.out]; kernel_rfl) ?_; intro w9 r9 g9))
    refine bodyPost_ret (v := .tuple #[arrV .u8 ys, .int .i64 0]) (results_row_tmp rfl _ _ (w.heap.size + 1 + 1 + 1) 26 _ (0, 0) _ rfl r9 _ rfl arr32D rfl (by rw [show (ys.map (Value.int .u8)).toArray.size = 32 by simp [hyl.out]]; kernel_rfl)) rfl ⟨rfl, ?_⟩
    exact b4.trans (below_of_grown g9 b4.size fun b hb => by injection hb with hb; omega)
end Go.Proofs.YtdfgdchmeikigaaDoor.Ot
