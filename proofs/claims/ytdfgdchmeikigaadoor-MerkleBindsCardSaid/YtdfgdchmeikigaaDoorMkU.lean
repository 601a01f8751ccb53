/-
  Layer 21, merkle: 'Clash' tells two texts of one sum, where something that is not the leaf leads to the root: contract. Conditions: as the theorem names.
-/
import Derived.Test.YtdfgdchmeikigaaDoorMkN
import Derived.Test.YtdfgdchmeikigaaDoorMkV
import Derived.Test.YtdfgdchmeikigaaDoorStI
import Derived.Deep.RegionHeld
import Derived.Deep.CutRange
import Derived.Deep.CutBlock
namespace Go.Proofs.YtdfgdchmeikigaaDoor.Mk
open Go.ChangeShapes Go.WideShapes Go.ChangeAt Go.RowKit Go.Proofs.YtdfgdchmeikigaaDoor.Kit Go.Proofs.YtdfgdchmeikigaaDoor.Sha

def Yes (w : World) (e : Ending) (w' : World) : Prop := e = .returned (.bool true) ∧ Below w.heap.size w w'
theorem Arr.kept1 {w w' : World} {g : Nat} {t : TypeId} {k : IntKind} {xs : List Int} {o : Obj} (h : Arr w g t k xs) (g9 : (w.alloc o).grownBy w' (some w.heap.size)) : Arr w' g t k xs :=
  Arr.grown (h.alloc o) g9 (by intro e; injection e with e; have := Arr.lt h; omega)
theorem below_kept {w0 w w' : World} {o : Obj} (h : Below w0.heap.size w0 w) (g9 : (w.alloc o).grownBy w' (some w.heap.size)) : Below w0.heap.size w0 w' :=
  (h.alloc h.size o).trans (below_of_grown g9 (by have := h.size; simp; omega) fun b hb => by injection hb with hb; have := h.size; omega)
theorem conv_mk (w : World) (A : Option Addr) (xs : List Int) (c B : Nat) (hr : Holds w B .u8 A xs) :
    (convert 35 9 (.slice A xs.length c)).run Tryd.prog w = .ok (.string (strOfNums xs)) w := conv_bytes Tryd.underlying35 Tryd.underlying5 Tryd.underlying9 w A xs c B hr
theorem neq_out {a : Act} {W : World} {x y : Operand} {s t : ByteArray} {b : Bool} {d : Option Tmp} {ty : TypeId} {ps : String} {af : Array Edge}
    (h : (s.toList == t.toList) = !b) (hx : a.eval x = .string s) (hy : a.eval y = .string t) :
    (execOp a.eval ⟨d, .binOp .neq 9 x y 9, ty, ps, af, none⟩).run Tryd.prog W = .ok (.value (.bool b)) W := by
  simp only [execOp, hx, hy]
  go_simp
theorem arr_eq (ys : List Int) (hy : D32 ys) (w : World) : (binOp .eql 24 (arrV .u8 ys) (arrV .u8 ys)).run Tryd.prog w = .ok (.bool true) w := by
  rw [run_eql_arr (P := Tryd.prog) (w := w) (t := 24) (e := 5) (k := .u8) (k' := .u8) ys ys (by rw [hy.1]; exact Tryd.underlying24) (Option.eq_some_of_isSome (by kernel_rfl)) (by kernel_rfl) Tryd.underlying5 (by kernel_rfl) rfl]
  simp
theorem arr_guard (ys : List Int) (x y : Operand) (w : World) : (eqGuard .eql 24 x y (arrV .u8 ys) (arrV .u8 ys)).run Tryd.prog w = .ok () w := run_eqGuard_agg w .eql 24 x y _ _ (by kernel_rfl)

set_option maxRecDepth 100000 in
set_option maxHeartbeats 12800000 in
theorem clash_yes (n : Nat) : ∀ (A : Option Addr) (l : List (List Int)) (c : Nat) (B : Option Addr) (ws : List (List Int)) (d i : Nat) (x : List Int) (w : World), l.length = n → l.length ≤ c → c ≤ maxLen → HoldsD w w.heap.size A l → l.length ≤ 1000000 →
    ws.length = stepsN i l.length → ws.length ≤ d → d ≤ maxLen → HoldsD w w.heap.size B ws → D32 x → i < l.length → leadL x i l.length ws = rootL l → x ≠ l.getD i [] →
    Calls Tryd.prog 40 #[.slice A l.length c, .agg (dcells x).toArray, .int .i64 i, .slice B ws.length d] w (Yes w) := by
  induction n using Nat.strongRecOn with
  | ind n ih =>
    intro A l c B ws d i x w hn hc hm hr hsz hws hd hmd hwr hx hi hle hne
    unfold maxLen at hm hmd
    by_cases h2 : 2 ≤ l.length
    · obtain ⟨_, k1, k2, k3⟩ := half_bd h2 (by omega)
      subst hn
      have GS := Lib.hid (fun W => rhalf_any l.length W h2 (by omega))
      have d2 : decide ((l.length : Int) = 1) = false := decide_eq_false (by omega)
      have hall := hr.all
      have hpos : 0 < ws.length := by
        rw [hws]
        by_cases hlt : i < halfN l.length
        · rw [stepsN_lo h2 (by omega) hlt]; omega
        · rw [stepsN_hi h2 (by omega) hlt]; omega
      obtain ⟨r, q, rfl⟩ : ∃ r q, ws = r ++ [q] := ⟨ws.dropLast, ws.getLast (by intro h; rw [h] at hpos; simp at hpos), (List.dropLast_concat_getLast _).symm⟩
      obtain ⟨b2, off2, rfl, hb2, hq0, hq⟩ := hwr.at_ (i := r.length) (by simp)
      have eq : (r ++ [q])[r.length]'(by simp) = q := by simp
      rw [eq] at hq0 hq
      have Hrg := Lib.hid (fun W (hB : Below w.heap.size w W) => (show W.rangeAt b2 (off2 + r.length * 32) (dcells q) from fun j v hj => (hB.cell (p := ⟨b2, off2 + r.length * 32 + j, none⟩) hb2).trans (hq0 j v hj)))
      have hrr : HoldsD w w.heap.size (some ⟨b2, off2, none⟩) r := by have := hwr.head r.length; rwa [List.take_left] at this
      obtain ⟨b, off, rfl, hb, _, _⟩ := hr.at_ (i := 0) (by omega)
      rw [List.length_append, List.length_singleton] at hws hd ⊢
      clear eq hq0 hwr hpos
      have GA := Lib.hid (fun W (hB : Below w.heap.size w W) => rroot_any (halfN l.length) (some ⟨b, off, none⟩) (l.take (halfN l.length)) c W (by simp <;> omega) (by simp <;> omega) (by unfold maxLen; omega) ((hr.on hB).head _))
      have GB := Lib.hid (fun W (hB : Below w.heap.size w W) => rroot_any (l.length - halfN l.length) (some ⟨b, off + halfN l.length * 32, none⟩) (l.drop (halfN l.length)) (c - halfN l.length) W (by simp) (by simp <;> omega) (by unfold maxLen; omega) ((hr.on hB).tail _))
      have lt' : (l.take (halfN l.length)).length = halfN l.length := by simp <;> omega
      have ld' : (l.drop (halfN l.length)).length = l.length - halfN l.length := by simp
      rw [lt'] at GA
      rw [ld'] at GB
      have had := rootL_d32 (l := l.take (halfN l.length)) (fun d hd => hall d (List.mem_of_mem_take hd)) (by omega)
      have hed := rootL_d32 (l := l.drop (halfN l.length)) (fun d hd => hall d (List.mem_of_mem_drop hd)) (by omega)
      have B0 := below_new (w := w) (.cells (dcells x).toArray 24)
      have X0 : Arr (w.alloc (.cells (dcells x).toArray 24)) w.heap.size 24 .u8 x := Arr.new w _ .u8 x
      have hz : ∀ W, (zeroValue 24).run Tryd.prog W = .ok (.agg #[.int .u8 0, .int .u8 0, .int .u8 0, .int .u8 0, .int .u8 0, .int .u8 0, .int .u8 0, .int .u8 0, .int .u8 0, .int .u8 0, .int .u8 0, .int .u8 0, .int .u8 0, .int .u8 0, .int .u8 0, .int .u8 0, .int .u8 0, .int .u8 0, .int .u8 0, .int .u8 0, .int .u8 0, .int .u8 0, .int .u8 0, .int .u8 0, .int .u8 0, .int .u8 0, .int .u8 0, .int .u8 0, .int .u8 0, .int .u8 0, .int .u8 0, .int .u8 0]) W := fun _ => by kernel_rfl
      clear hall
      by_cases hlt : i < halfN l.length
      · have hrl : r.length = stepsN i (halfN l.length) := by rw [stepsN_lo h2 (by omega) hlt] at hws; omega
        rw [leadL_lo h2 (by omega) hlt, rootL_two h2 (by omega)] at hle
        have GL := Lib.hid (fun W (hB : Below w.heap.size w W) => rlead_any (halfN l.length) (some ⟨b2, off2, none⟩) r d i x W (by omega) hrl (by omega) (by unfold maxLen; omega) (hrr.on hB) hx hlt)
        have hud := leadR_d32 (halfN l.length) i x r.reverse hx
        have GI := Lib.hid (fun W (hB : Below w.heap.size w W) (he : leadL x i (halfN l.length) r = rootL (l.take (halfN l.length))) => ih (halfN l.length) (by omega) (some ⟨b, off, none⟩) (l.take (halfN l.length)) c (some ⟨b2, off2, none⟩) r d i x W (by simp <;> omega) (by simp <;> omega) (by unfold maxLen; omega) ((hr.on hB).head _) (by simp <;> omega) (by rw [lt']; exact hrl) (by omega) (by unfold maxLen; omega) (hrr.on hB) hx (by rw [lt']; exact hlt) (by rw [lt']; exact he) (by rw [show (l.take (halfN l.length)).getD i [] = l.getD i [] by simp [List.getD, hlt]]; exact hne))
        rw [lt'] at GI
        change pairL (leadL x i (halfN l.length) r) q = _ at hle
        change D32 (leadL x i (halfN l.length) r) at hud
        generalize leadL x i (halfN l.length) r = u at *
        generalize rootL (l.take (halfN l.length)) = a at *
        generalize rootL (l.drop (halfN l.length)) = e0 at *
        generalize halfN l.length = k at *
        have la := Lib.hid had.1
        have le := Lib.hid hed.1
        have lq := Lib.hid hq.1
        have lu := Lib.hid hud.1
        have lx := Lib.hid hx.1
        have GT1 := Lib.hid (fun W => text_any a e0 W had hed)
        have GT2 := Lib.hid (fun W => text_any u q W (hud) (hq))
        have GP1 := Lib.hid (fun W => rpair_any a e0 W had hed)
        have GP2 := Lib.hid (fun W => rpair_any u q W (hud) (hq))
        rw [hle] at GP2
        have hpd := pairL_d32 a e0
        have hstr : strOfNums (1 :: (a ++ e0)) = strOfNums (1 :: (u ++ q)) → u = a ∧ q = e0 := fun h => by
          have oc : ∀ p q : List Int, D32 p → D32 q → Octets (1 :: (p ++ q)) := fun p q hp hq z hz => by
            rcases List.mem_cons.1 hz with rfl | hz
            · omega
            · exact (List.mem_append.1 hz).elim (hp.2 z) (hq.2 z)
          have h1 := strOfNums_inj (oc _ _ had hed) (oc _ _ (hud) (hq)) h
          injection h1 with _ h1
          have h2 := List.append_inj h1 (by rw [had.1, ((hud)).1])
          exact ⟨h2.1.symm, h2.2.symm⟩
        have Hstr := Lib.hid hstr
        generalize h1e : 1 :: (a ++ e0) = z1 at *
        generalize h2e : 1 :: (u ++ q) = z2 at *
        have e2 : ∀ W, (binOp .eql 24 (arrV .u8 (pairL a e0)) (arrV .u8 (pairL a e0))).run Tryd.prog W = .ok (.bool true) W := fun W => arr_eq (pairL a e0) hpd W
        have f2 : ∀ W x' y, (eqGuard .eql 24 x' y (arrV .u8 (pairL a e0)) (arrV .u8 (pairL a e0))).run Tryd.prog W = .ok () W := fun W x' y => arr_guard (pairL a e0) x' y W
        generalize pairL a e0 = p at *
        clear ih hws hrl hle had hed hq hud hx hne hstr hpd h1e h2e hr hrr lt' ld'
        have dl : decide ((i : Int) < k) = true := decide_eq_true (by omega)
        have kl : k ≤ l.length := by omega
        have kc : ¬ c = k := by omega
        have kw : r.length ≤ d := by omega
        have ix : (r.length : Int) < (r.length : Int) + 1 := by omega
        have q1 : (0 : Int) ≤ (r.length : Int) := by omega
        go_enter Tryd.func40, Tryd.ntmps40
        go_wp2_with (go_at_call 71; refine (GS.out _).mono ?_; rintro e w1 ⟨rfl, rfl⟩)
        refine (GA.out _ B0).mono ?_
        rintro e w1 ⟨rfl, hb1⟩
        have B1 := B0.trans (hb1.mono B0.size)
        have X1 : Arr w1 w.heap.size 24 .u8 x := Block.below X0 hb1 (Block.lt X0)
        have z3 := res_new w1 24
        clear B0 X0 hb1
        go_wp2_with (have _t := z3; refine wpList_store_arr rfl _ _ _ rfl z3 rfl rfl (by rw [la.out]; rfl) (by rw [la.out]; kernel_rfl) ?_; intro w2 ra2 g2; have B2 := below_kept B1 g2; have X2 := Arr.kept1 X1 g2; have L1 := Block.lt X1; clear _t z3 B1 X1 g2)
        refine (GB.out _ B2).mono ?_
        rintro e w3 ⟨rfl, hb3⟩
        have B3 := B2.trans (hb3.mono B2.size)
        have X3 : Arr w3 w.heap.size 24 .u8 x := Block.below X2 hb3 (Block.lt X2)
        have ra3 := Block.below ra2 hb3 (Block.lt ra2)
        have M1 := Block.lt ra3
        have z3 := res_new w3 24
        clear B2 X2 ra2 hb3
        generalize w1.heap.size = ba at *
        go_wp2_with (first
          | (have _t := z3; refine wpList_store_arr rfl _ _ _ rfl z3 rfl rfl (by rw [le.out]; rfl) (by rw [le.out]; kernel_rfl) ?_; intro w4 rb4 g4; have B4 := below_kept B3 g4; have X4 := Arr.kept1 X3 g4; have ra4 := Arr.kept1 ra3 g4; have z4 := res_new w4 24; have M2 := Block.lt rb4; clear _t z3 B3 X3 ra3 g4)
          | (have _t := z4; refine wpList_load_mid rfl _ _ rfl b2 (off2 + r.length * 32) rfl (dcells q) _ (Hrg.out _ B4) arr32A rfl (by unfold dcells; rw [List.length_map, lq.out]; kernel_rfl) ?_)
          | (have _t := z4; refine wpList_store_arr rfl _ _ _ rfl (ys := q) z4 rfl rfl (by rw [lq.out]; rfl) (by rw [lq.out]; kernel_rfl) ?_; intro w5 ru5 g5; have B5 := below_kept B4 g5; have X5 := Arr.kept1 X4 g5; have ra5 := Arr.kept1 ra4 g5; have rb5 := Arr.kept1 rb4 g5; have z5 := res_new w5 24; have M3 := Block.lt ru5; clear _t z4 B4 X4 ra4 rb4 g5)
          | (have _t := z5; refine wpList_load_mid rfl _ _ rfl b2 (off2 + r.length * 32) rfl (dcells q) _ (Hrg.out _ B5) arr32A rfl (by unfold dcells; rw [List.length_map, lq.out]; kernel_rfl) ?_)
          | (have _t := z5; refine wpList_store_arr rfl _ _ _ rfl (ys := q) z5 rfl rfl (by rw [lq.out]; rfl) (by rw [lq.out]; kernel_rfl) ?_; intro w6 rv6 g6; have B6 := below_kept B5 g6; have X6 := Arr.kept1 X5 g6; have ra6 := Arr.kept1 ra5 g6; have rb6 := Arr.kept1 rb5 g6; have ru6 := Arr.kept1 ru5 g6; have M4 := Block.lt rv6; clear _t z5 B5 X5 ra5 rb5 ru5 g6))
        generalize w3.heap.size = bb at *
        generalize w4.heap.size = bu at *
        generalize w5.heap.size = bv at *
        clear M4
        have B7 := below_draws B6 1
        have X7 := Arr.drewN X6 1
        have ra7 := Arr.drewN ra6 1
        have rb7 := Arr.drewN rb6 1
        have ru7 := Arr.drewN ru6 1
        have rv7 := Arr.drewN rv6 1
        clear B6 X6 ra6 rb6 ru6 rv6
        refine wp_region_held_drew (S := (fun W => Arr W w.heap.size 24 .u8 x)) (by kernel_rfl) X7 (fun hS => ?_)
        refine wpAnyH_take (i := 0) (v := .agg (dcells x).toArray) rfl (by kernel_rfl) (by kernel_rfl) (by kernel_rfl) (fun _ _ _ h => h) (yieldsIf_load_mid (by rfl) _ _ rfl w.heap.size 0 rfl (dcells x) _ (fun W hW => Arr.range hW) arr32A rfl (by unfold dcells; rw [List.length_map, lx.out]; kernel_rfl)) hS ?_
        try simp only [Act.put, List.setIfInBounds_toArray]
        refine wpAnyH_take (i := 1) (v := .int .i64 i) rfl (by kernel_rfl) (by kernel_rfl) (by kernel_rfl) (fun _ _ _ h => h) (Or.inl ⟨by rfl, fun W _ => by go_simp⟩) hS ?_
        try simp only [Act.put]
        refine wpAnyH_take (i := 2) (v := .int .i64 k) rfl (by kernel_rfl) (by kernel_rfl) (by kernel_rfl) (fun _ _ _ h => h) (Or.inl ⟨by rfl, fun W _ => by go_simp⟩) hS ?_
        try simp only [Act.put]
        refine wpAnyH_take (i := 3) (v := .slice (some ⟨b2, off2, none⟩) (r.length + 1) d) rfl (by kernel_rfl) (by kernel_rfl) (by kernel_rfl) (fun _ _ _ h => h) (Or.inl ⟨by rfl, fun W _ => by go_simp⟩) hS ?_
        try simp only [Act.put]
        refine wpAnyH_take (i := 4) (v := .int .i64 r.length) rfl (by kernel_rfl) (by kernel_rfl) (by kernel_rfl) (fun _ _ _ h => h) (Or.inl ⟨by rfl, fun W _ => by go_simp⟩) hS ?_
        try simp only [Act.put]
        refine wpAnyH_take (i := 5) (v := .slice (some ⟨b2, off2, none⟩) r.length d) rfl (by kernel_rfl) (by kernel_rfl) (by kernel_rfl) (fun _ _ _ h => h) (Or.inl ⟨by rfl, fun W _ => by go_simp <;> first | (intro h; omega) | (rw [if_pos kl]) | (rw [if_pos kl, if_neg kc]) | (rw [if_pos kw])⟩) hS ?_
        try simp only [Act.put]
        refine wpAnyH_ready (rs := [6]) (by kernel_rfl) (by simp) ?_
        refine AllReadyH.cons rfl (fun K hK => ?_) AllReadyH.nil
        go_simp
        go_at_call 39
        refine (GL.out _ B7).mono ?_
        rintro e w8 ⟨rfl, hb8⟩
        have B8 := B7.trans (hb8.mono B7.size)
        have X8 : Arr w8 w.heap.size 24 .u8 x := Block.below X7 hb8 (Block.lt X7)
        have ra8 := Block.below ra7 hb8 (Block.lt ra7)
        have rb8 := Block.below rb7 hb8 (Block.lt rb7)
        have ru8 := Block.below ru7 hb8 (Block.lt ru7)
        have rv8 := Block.below rv7 hb8 (Block.lt rv7)
        refine hK.out _ _ X8 (fun hS => ?_)
        clear hK K
        try simp only [Act.put, List.setIfInBounds_toArray, List.set_cons_zero, List.set_cons_succ]
        refine wpAnyH_ready (rs := [7]) (by kernel_rfl) (by simp) ?_
        refine AllReadyH.cons rfl (fun K hK => ?_) AllReadyH.nil
        refine step_store_arr rfl _ _ _ rfl (ys := u) ru8 rfl rfl (by rw [lu.out, lq.out]) (by rw [lu.out]; kernel_rfl) ?_
        intro w9 ru9 g9
        have X9 := Arr.grown X8 g9 (by intro e; injection e with e; omega)
        have ra9 := Arr.grown ra8 g9 (by intro e; injection e with e; omega)
        have rb9 := Arr.grown rb8 g9 (by intro e; injection e with e; omega)
        have rv9 := Arr.grown rv8 g9 (by intro e; injection e with e; omega)
        have B9 := B8.trans (below_of_grown g9 B8.size (fun b hb => by injection hb with hb; omega))
        refine hK.out _ _ X9 (fun hS => ?_)
        clear hK K
        try simp only [Act.put, List.setIfInBounds_toArray]
        refine wpAnyH_done (by kernel_rfl) ?_ _
        clear hS B7 X7 ra7 rb7 ru7 rv7 B8 X8 ra8 rb8 ru8 rv8 hb8 g9
        go_wp2_with fail
        have B10 := below_draws B9 1
        have X10 := Arr.drewN X9 1
        have ra10 := Arr.drewN ra9 1
        have rb10 := Arr.drewN rb9 1
        have ru10 := Arr.drewN ru9 1
        have rv10 := Arr.drewN rv9 1
        have htw : ∃ tw : Bool, ((strOfNums z1).toList == (strOfNums z2).toList) = !tw := ⟨!((strOfNums z1).toList == (strOfNums z2).toList), by simp⟩
        obtain ⟨tw, htw⟩ := htw
        go_cut [70] from 62 to 70 (fun s70 wx => s70 = .bool tw ∧ Arr wx ba 24 .u8 a ∧ Arr wx bb 24 .u8 e0 ∧ Arr wx bu 24 .u8 u ∧ Arr wx bv 24 .u8 q ∧ Arr wx w.heap.size 24 .u8 x ∧ Below w.heap.size w wx)
        case first =>
          refine wp_region_held_drew (S := (fun W => Arr W ba 24 .u8 a ∧ Arr W bb 24 .u8 e0 ∧ Arr W bu 24 .u8 u ∧ Arr W bv 24 .u8 q)) (by kernel_rfl) ⟨ra10, rb10, ru10, rv10⟩ (fun hS => ?_)
          refine wpAnyH_take (i := 0) (v := .agg (dcells a).toArray) rfl (by kernel_rfl) (by kernel_rfl) (by kernel_rfl) (fun _ _ _ h => h) (yieldsIf_load_mid (by rfl) _ _ rfl ba 0 rfl (dcells a) _ (fun W hW => Arr.range hW.1) arr32A rfl (by unfold dcells; rw [List.length_map, la.out]; kernel_rfl)) hS ?_
          try simp only [Act.put, List.setIfInBounds_toArray]
          refine wpAnyH_take (i := 1) (v := .agg (dcells e0).toArray) rfl (by kernel_rfl) (by kernel_rfl) (by kernel_rfl) (fun _ _ _ h => h) (yieldsIf_load_mid (by rfl) _ _ rfl bb 0 rfl (dcells e0) _ (fun W hW => Arr.range hW.2.1) arr32A rfl (by unfold dcells; rw [List.length_map, le.out]; kernel_rfl)) hS ?_
          try simp only [Act.put]
          refine wpAnyH_take (i := 4) (v := .agg (dcells u).toArray) rfl (by kernel_rfl) (by kernel_rfl) (by kernel_rfl) (fun _ _ _ h => h) (yieldsIf_load_mid (by rfl) _ _ rfl bu 0 rfl (dcells u) _ (fun W hW => Arr.range hW.2.2.1) arr32A rfl (by unfold dcells; rw [List.length_map, lu.out]; kernel_rfl)) hS ?_
          try simp only [Act.put]
          refine wpAnyH_take (i := 5) (v := .agg (dcells q).toArray) rfl (by kernel_rfl) (by kernel_rfl) (by kernel_rfl) (fun _ _ _ h => h) (yieldsIf_load_mid (by rfl) _ _ rfl bv 0 rfl (dcells q) _ (fun W hW => Arr.range hW.2.2.2) arr32A rfl (by unfold dcells; rw [List.length_map, lq.out]; kernel_rfl)) hS ?_
          try simp only [Act.put]
          refine wpAnyH_ready (rs := [2]) (by kernel_rfl) (by simp) ?_
          refine AllReadyH.cons rfl (fun K hK => ?_) AllReadyH.nil
          go_simp
          go_at_call 72
          refine (GT1.out _).mono ?_
          rintro e w11 ⟨v11, rfl, own11, hb11⟩
          have B11 := B10.trans (hb11.mono B10.size)
          have X11 : Arr w11 w.heap.size 24 .u8 x := Block.below X10 hb11 (Block.lt X10)
          have ra11 := Block.below ra10 hb11 (Block.lt ra10)
          have rb11 := Block.below rb10 hb11 (Block.lt rb10)
          have ru11 := Block.below ru10 hb11 (Block.lt ru10)
          have rv11 := Block.below rv10 hb11 (Block.lt rv10)
          obtain ⟨P11, c11, rfl, k11, m11, H11⟩ := own11.opened
          have f11 := conv_mk w11 P11 z1 c11 _ H11
          refine hK.out _ _ ⟨ra11, rb11, ru11, rv11⟩ (fun hS => ?_)
          clear hK K
          try simp only [Act.put, List.setIfInBounds_toArray, List.set_cons_zero, List.set_cons_succ]
          refine wpAnyH_ready (rs := [3, 6]) (by kernel_rfl) (by simp) ?_
          refine AllReadyH.cons rfl (fun K hK => ?_) (AllReadyH.cons rfl (fun K hK => ?_) AllReadyH.nil)
          · go_simp
            refine hK.out _ _ ⟨ra11, rb11, ru11, rv11⟩ (fun hS => ?_)
            clear hK K
            try simp only [Act.put, List.setIfInBounds_toArray, List.set_cons_zero, List.set_cons_succ]
            refine wpAnyH_ready (rs := [6]) (by kernel_rfl) (by simp) ?_
            refine AllReadyH.cons rfl (fun K hK => ?_) AllReadyH.nil
            go_simp
            go_at_call 72
            refine (GT2.out _).mono ?_
            rintro e w12 ⟨v12, rfl, own12, hb12⟩
            have B12 := B11.trans (hb12.mono B11.size)
            have X12 : Arr w12 w.heap.size 24 .u8 x := Block.below X11 hb12 (Block.lt X11)
            have ra12 := Block.below ra11 hb12 (Block.lt ra11)
            have rb12 := Block.below rb11 hb12 (Block.lt rb11)
            have ru12 := Block.below ru11 hb12 (Block.lt ru11)
            have rv12 := Block.below rv11 hb12 (Block.lt rv11)
            obtain ⟨P12, c12, rfl, k12, m12, H12⟩ := own12.opened
            have f12 := conv_mk w12 P12 z2 c12 _ H12
            refine hK.out _ _ ⟨ra12, rb12, ru12, rv12⟩ (fun hS => ?_)
            clear hK K
            try simp only [Act.put, List.setIfInBounds_toArray, List.set_cons_zero, List.set_cons_succ]
            refine wpAnyH_ready (rs := [7]) (by kernel_rfl) (by simp) ?_
            refine AllReadyH.cons rfl (fun K hK => ?_) AllReadyH.nil
            go_simp
            refine hK.out _ _ ⟨ra12, rb12, ru12, rv12⟩ (fun hS => ?_)
            clear hK K
            try simp only [Act.put, List.setIfInBounds_toArray, List.set_cons_zero, List.set_cons_succ]
            refine wpAnyH_take (i := 8) (oi := ⟨some 70, .binOp .neq 9 (.tmp 65) (.tmp 69) 9, 4, "ref.go:95", _, none⟩) (v := .bool tw) rfl (by kernel_rfl) (by kernel_rfl) (by kernel_rfl) (fun _ _ _ h => h) (Or.inl ⟨by rfl, fun W _ => ?_⟩) hS ?_
            · exact neq_out htw rfl rfl
            try simp only [Act.put, List.setIfInBounds_toArray, List.set_cons_zero, List.set_cons_succ]
            refine wpAnyH_done (by kernel_rfl) ?_ _
            go_wp2_with fail
            go_meet
            exact ⟨rfl, ra12, rb12, ru12, rv12, X12, B12⟩
          · go_simp
            go_at_call 72
            refine (GT2.out _).mono ?_
            rintro e w12 ⟨v12, rfl, own12, hb12⟩
            have B12 := B11.trans (hb12.mono B11.size)
            have X12 : Arr w12 w.heap.size 24 .u8 x := Block.below X11 hb12 (Block.lt X11)
            have ra12 := Block.below ra11 hb12 (Block.lt ra11)
            have rb12 := Block.below rb11 hb12 (Block.lt rb11)
            have ru12 := Block.below ru11 hb12 (Block.lt ru11)
            have rv12 := Block.below rv11 hb12 (Block.lt rv11)
            obtain ⟨P12, c12, rfl, k12, m12, H12⟩ := own12.opened
            have f12 := conv_mk w12 P12 z2 c12 _ H12
            have f11' := conv_mk w12 P11 z1 c11 _ (H11.below hb12)
            refine hK.out _ _ ⟨ra12, rb12, ru12, rv12⟩ (fun hS => ?_)
            clear hK K
            try simp only [Act.put, List.setIfInBounds_toArray, List.set_cons_zero, List.set_cons_succ]
            refine wpAnyH_ready (rs := [3, 7]) (by kernel_rfl) (by simp) ?_
            refine AllReadyH.cons rfl (fun K hK => ?_) (AllReadyH.cons rfl (fun K hK => ?_) AllReadyH.nil)
            · go_simp
              refine hK.out _ _ ⟨ra12, rb12, ru12, rv12⟩ (fun hS => ?_)
              clear hK K
              try simp only [Act.put, List.setIfInBounds_toArray, List.set_cons_zero, List.set_cons_succ]
              refine wpAnyH_ready (rs := [7]) (by kernel_rfl) (by simp) ?_
              refine AllReadyH.cons rfl (fun K hK => ?_) AllReadyH.nil
              go_simp
              refine hK.out _ _ ⟨ra12, rb12, ru12, rv12⟩ (fun hS => ?_)
              clear hK K
              try simp only [Act.put, List.setIfInBounds_toArray, List.set_cons_zero, List.set_cons_succ]
              refine wpAnyH_take (i := 8) (oi := ⟨some 70, .binOp .neq 9 (.tmp 65) (.tmp 69) 9, 4, "ref.go:95", _, none⟩) (v := .bool tw) rfl (by kernel_rfl) (by kernel_rfl) (by kernel_rfl) (fun _ _ _ h => h) (Or.inl ⟨by rfl, fun W _ => ?_⟩) hS ?_
              · exact neq_out htw rfl rfl
              try simp only [Act.put, List.setIfInBounds_toArray, List.set_cons_zero, List.set_cons_succ]
              refine wpAnyH_done (by kernel_rfl) ?_ _
              go_wp2_with fail
              go_meet
              exact ⟨rfl, ra12, rb12, ru12, rv12, X12, B12⟩
            · go_simp
              refine hK.out _ _ ⟨ra12, rb12, ru12, rv12⟩ (fun hS => ?_)
              clear hK K
              try simp only [Act.put, List.setIfInBounds_toArray, List.set_cons_zero, List.set_cons_succ]
              refine wpAnyH_ready (rs := [3]) (by kernel_rfl) (by simp) ?_
              refine AllReadyH.cons rfl (fun K hK => ?_) AllReadyH.nil
              go_simp
              refine hK.out _ _ ⟨ra12, rb12, ru12, rv12⟩ (fun hS => ?_)
              clear hK K
              try simp only [Act.put, List.setIfInBounds_toArray, List.set_cons_zero, List.set_cons_succ]
              refine wpAnyH_take (i := 8) (oi := ⟨some 70, .binOp .neq 9 (.tmp 65) (.tmp 69) 9, 4, "ref.go:95", _, none⟩) (v := .bool tw) rfl (by kernel_rfl) (by kernel_rfl) (by kernel_rfl) (fun _ _ _ h => h) (Or.inl ⟨by rfl, fun W _ => ?_⟩) hS ?_
              · exact neq_out htw rfl rfl
              try simp only [Act.put, List.setIfInBounds_toArray, List.set_cons_zero, List.set_cons_succ]
              refine wpAnyH_done (by kernel_rfl) ?_ _
              go_wp2_with fail
              go_meet
              exact ⟨rfl, ra12, rb12, ru12, rv12, X12, B12⟩
        case rest =>
          obtain ⟨rfl, ra, rb, ru, rv, X, B⟩ := hcut
          clear B10 X10 ra10 rb10 ru10 rv10 B9 X9 ra9 rb9 ru9 rv9
          cases tw
          case false =>
            obtain ⟨eu, ev⟩ := Hstr.out (bytes_inj (by have h0 := eq_of_beq htw; rwa [ByteArray.toList_eq, ByteArray.toList_eq] at h0))
            have GI := Lib.hid (fun W hB => GI.out W hB eu)
            go_wp2_with fail
            have X2 := Arr.drewN X 1
            have B2 := below_draws B 1
            refine wp_region_held_drew (S := (fun W => Arr W w.heap.size 24 .u8 x)) (by kernel_rfl) X2 (fun hS => ?_)
            refine wpAnyH_take (i := 0) (v := .slice (some ⟨b, off, none⟩) l.length c) rfl (by kernel_rfl) (by kernel_rfl) (by kernel_rfl) (fun _ _ _ h => h) (Or.inl ⟨by rfl, fun W _ => by go_simp⟩) hS ?_
            try simp only [Act.put, List.setIfInBounds_toArray]
            refine wpAnyH_take (i := 1) (v := .int .i64 k) rfl (by kernel_rfl) (by kernel_rfl) (by kernel_rfl) (fun _ _ _ h => h) (Or.inl ⟨by rfl, fun W _ => by go_simp⟩) hS ?_
            try simp only [Act.put]
            refine wpAnyH_take (i := 2) (v := .slice (some ⟨b, off, none⟩) k c) rfl (by kernel_rfl) (by kernel_rfl) (by kernel_rfl) (fun _ _ _ h => h) (Or.inl ⟨by rfl, fun W _ => by go_simp <;> first | (intro h; omega) | (rw [if_pos kl]) | (rw [if_pos kl, if_neg kc]) | (rw [if_pos kw])⟩) hS ?_
            try simp only [Act.put]
            refine wpAnyH_take (i := 3) (v := .agg (dcells x).toArray) rfl (by kernel_rfl) (by kernel_rfl) (by kernel_rfl) (fun _ _ _ h => h) (yieldsIf_load_mid (by rfl) _ _ rfl w.heap.size 0 rfl (dcells x) _ (fun W hW => Arr.range hW) arr32A rfl (by unfold dcells; rw [List.length_map, lx.out]; kernel_rfl)) hS ?_
            try simp only [Act.put]
            refine wpAnyH_take (i := 4) (v := .int .i64 i) rfl (by kernel_rfl) (by kernel_rfl) (by kernel_rfl) (fun _ _ _ h => h) (Or.inl ⟨by rfl, fun W _ => by go_simp⟩) hS ?_
            try simp only [Act.put]
            refine wpAnyH_take (i := 5) (v := .slice (some ⟨b2, off2, none⟩) (r.length + 1) d) rfl (by kernel_rfl) (by kernel_rfl) (by kernel_rfl) (fun _ _ _ h => h) (Or.inl ⟨by rfl, fun W _ => by go_simp⟩) hS ?_
            try simp only [Act.put]
            refine wpAnyH_take (i := 6) (v := .int .i64 r.length) rfl (by kernel_rfl) (by kernel_rfl) (by kernel_rfl) (fun _ _ _ h => h) (Or.inl ⟨by rfl, fun W _ => by go_simp⟩) hS ?_
            try simp only [Act.put]
            refine wpAnyH_take (i := 7) (v := .slice (some ⟨b2, off2, none⟩) r.length d) rfl (by kernel_rfl) (by kernel_rfl) (by kernel_rfl) (fun _ _ _ h => h) (Or.inl ⟨by rfl, fun W _ => by go_simp <;> first | (intro h; omega) | (rw [if_pos kl]) | (rw [if_pos kl, if_neg kc]) | (rw [if_pos kw])⟩) hS ?_
            try simp only [Act.put]
            refine wpAnyH_ready (rs := [8]) (by kernel_rfl) (by simp) ?_
            refine AllReadyH.cons rfl (fun K hK => ?_) AllReadyH.nil
            go_simp
            go_at_call 40
            refine (GI.out _ B2).mono ?_
            rintro e w3 ⟨rfl, hb3⟩
            have B3 := B2.trans (hb3.mono B2.size)
            have X3 : Arr w3 w.heap.size 24 .u8 x := Block.below X2 hb3 (Block.lt X2)
            refine hK.out _ _ X3 (fun hS => ?_)
            clear hK K
            try simp only [Act.put, List.setIfInBounds_toArray, List.set_cons_zero, List.set_cons_succ]
            refine wpAnyH_ready (rs := [9]) (by kernel_rfl) (by simp) ?_
            refine AllReadyH.cons rfl (fun K hK => ?_) AllReadyH.nil
            go_simp
            refine hK.out _ _ X3 (fun hS => ?_)
            clear hK K
            try simp only [Act.put, List.setIfInBounds_toArray, List.set_cons_zero, List.set_cons_succ]
            refine wpAnyH_done (by kernel_rfl) ?_ _
            go_wp2_with fail
            go_ret
            exact ⟨rfl, B3⟩
          case true =>
            go_wp2_with fail
            refine wp_region_quiet_below (by kernel_rfl) (by kernel_rfl) ?_
            refine wpQuiet_step (fun K hK => ?_)
            refine quiet_load_row (by rfl) 24 _ (by rfl) ba 0 (by rfl) (dcells a) _ (range_regrown (Arr.range ra)) arr32A (by rfl) (by unfold dcells; rw [List.length_map, la.out]; kernel_rfl) ?_
            go_simp
            refine hK _ ?_
            clear hK K
            refine wpQuiet_step (fun K hK => ?_)
            refine quiet_load_row (by rfl) 24 _ (by rfl) bb 0 (by rfl) (dcells e0) _ (range_regrown (Arr.range rb)) arr32A (by rfl) (by unfold dcells; rw [List.length_map, le.out]; kernel_rfl) ?_
            go_simp
            refine hK _ ?_
            clear hK K
            go_big_quiet_step (exact Calls.regrown_of (GP1.out _))
            refine wpQuiet_step (fun K hK => ?_)
            refine quiet_load_row (by rfl) 24 _ (by rfl) bu 0 (by rfl) (dcells u) _ (range_regrown (Arr.range ru)) arr32A (by rfl) (by unfold dcells; rw [List.length_map, lu.out]; kernel_rfl) ?_
            go_simp
            refine hK _ ?_
            clear hK K
            refine wpQuiet_step (fun K hK => ?_)
            refine quiet_load_row (by rfl) 24 _ (by rfl) bv 0 (by rfl) (dcells q) _ (range_regrown (Arr.range rv)) arr32A (by rfl) (by unfold dcells; rw [List.length_map, lq.out]; kernel_rfl) ?_
            go_simp
            refine hK _ ?_
            clear hK K
            go_big_quiet_step (exact Calls.regrown_of (GP2.out _))
            repeat (go_big_quiet_step (fail))
            refine wpQuiet_nil ?_
            intro _ hw'
            obtain ⟨⟨dq, osq⟩, hw''⟩ := hw'
            have hbq := below_regrown wc dq osq
            subst hw''
            go_wp2_with fail
            go_ret
            exact ⟨rfl, B.trans (hbq.mono B.size)⟩
      · have hrl : r.length = stepsN (i - halfN l.length) (l.length - halfN l.length) := by rw [stepsN_hi h2 (by omega) hlt] at hws; omega
        rw [leadL_hi h2 (by omega) hlt, rootL_two h2 (by omega)] at hle
        have GL := Lib.hid (fun W (hB : Below w.heap.size w W) => rlead_any (l.length - halfN l.length) (some ⟨b2, off2, none⟩) r d (i - halfN l.length) x W (by omega) hrl (by omega) (by unfold maxLen; omega) (hrr.on hB) hx (by omega))
        have hud := leadR_d32 (l.length - halfN l.length) (i - halfN l.length) x r.reverse hx
        have GI := Lib.hid (fun W (hB : Below w.heap.size w W) (he : leadL x (i - halfN l.length) (l.length - halfN l.length) r = rootL (l.drop (halfN l.length))) => ih (l.length - halfN l.length) (by omega) (some ⟨b, off + halfN l.length * 32, none⟩) (l.drop (halfN l.length)) (c - halfN l.length) (some ⟨b2, off2, none⟩) r d (i - halfN l.length) x W (by simp) (by simp <;> omega) (by unfold maxLen; omega) ((hr.on hB).tail _) (by simp <;> omega) (by rw [ld']; exact hrl) (by omega) (by unfold maxLen; omega) (hrr.on hB) hx (by rw [ld']; omega) (by rw [ld']; exact he) (by rw [show (l.drop (halfN l.length)).getD (i - halfN l.length) [] = l.getD i [] by simp [List.getD, List.getElem?_drop, show halfN l.length + (i - halfN l.length) = i by omega]]; exact hne))
        have ei : ((i - halfN l.length : Nat) : Int) = (i : Int) - (halfN l.length : Int) := by omega
        have en : ((l.length - halfN l.length : Nat) : Int) = (l.length : Int) - (halfN l.length : Int) := by omega
        rw [ld', ei] at GI
        rw [ei, en] at GL
        change pairL q (leadL x (i - halfN l.length) (l.length - halfN l.length) r) = _ at hle
        change D32 (leadL x (i - halfN l.length) (l.length - halfN l.length) r) at hud
        generalize leadL x (i - halfN l.length) (l.length - halfN l.length) r = u at *
        generalize rootL (l.take (halfN l.length)) = a at *
        generalize rootL (l.drop (halfN l.length)) = e0 at *
        generalize halfN l.length = k at *
        have la := Lib.hid had.1
        have le := Lib.hid hed.1
        have lq := Lib.hid hq.1
        have lu := Lib.hid hud.1
        have lx := Lib.hid hx.1
        have GT1 := Lib.hid (fun W => text_any a e0 W had hed)
        have GT2 := Lib.hid (fun W => text_any q u W (hq) (hud))
        have GP1 := Lib.hid (fun W => rpair_any a e0 W had hed)
        have GP2 := Lib.hid (fun W => rpair_any q u W (hq) (hud))
        rw [hle] at GP2
        have hpd := pairL_d32 a e0
        have hstr : strOfNums (1 :: (a ++ e0)) = strOfNums (1 :: (q ++ u)) → q = a ∧ u = e0 := fun h => by
          have oc : ∀ p q : List Int, D32 p → D32 q → Octets (1 :: (p ++ q)) := fun p q hp hq z hz => by
            rcases List.mem_cons.1 hz with rfl | hz
            · omega
            · exact (List.mem_append.1 hz).elim (hp.2 z) (hq.2 z)
          have h1 := strOfNums_inj (oc _ _ had hed) (oc _ _ (hq) (hud)) h
          injection h1 with _ h1
          have h2 := List.append_inj h1 (by rw [had.1, ((hq)).1])
          exact ⟨h2.1.symm, h2.2.symm⟩
        have Hstr := Lib.hid hstr
        generalize h1e : 1 :: (a ++ e0) = z1 at *
        generalize h2e : 1 :: (q ++ u) = z2 at *
        have e2 : ∀ W, (binOp .eql 24 (arrV .u8 (pairL a e0)) (arrV .u8 (pairL a e0))).run Tryd.prog W = .ok (.bool true) W := fun W => arr_eq (pairL a e0) hpd W
        have f2 : ∀ W x' y, (eqGuard .eql 24 x' y (arrV .u8 (pairL a e0)) (arrV .u8 (pairL a e0))).run Tryd.prog W = .ok () W := fun W x' y => arr_guard (pairL a e0) x' y W
        generalize pairL a e0 = p at *
        clear ih hws hrl hle had hed hq hud hx hne hstr hpd h1e h2e hr hrr lt' ld'
        have dl : decide ((i : Int) < k) = false := decide_eq_false (by omega)
        have kl : k ≤ l.length := by omega
        have kc : ¬ c = k := by omega
        have kw : r.length ≤ d := by omega
        have ix : (r.length : Int) < (r.length : Int) + 1 := by omega
        have q1 : (0 : Int) ≤ (r.length : Int) := by omega
        have q2 : (0 : Int) ≤ (i : Int) - k := by omega
        have q3 : (0 : Int) ≤ (l.length : Int) - k := by omega
        go_enter Tryd.func40, Tryd.ntmps40
        go_wp2_with (go_at_call 71; refine (GS.out _).mono ?_; rintro e w1 ⟨rfl, rfl⟩)
        refine (GA.out _ B0).mono ?_
        rintro e w1 ⟨rfl, hb1⟩
        have B1 := B0.trans (hb1.mono B0.size)
        have X1 : Arr w1 w.heap.size 24 .u8 x := Block.below X0 hb1 (Block.lt X0)
        have z3 := res_new w1 24
        clear B0 X0 hb1
        go_wp2_with (have _t := z3; refine wpList_store_arr rfl _ _ _ rfl z3 rfl rfl (by rw [la.out]; rfl) (by rw [la.out]; kernel_rfl) ?_; intro w2 ra2 g2; have B2 := below_kept B1 g2; have X2 := Arr.kept1 X1 g2; have L1 := Block.lt X1; clear _t z3 B1 X1 g2)
        refine (GB.out _ B2).mono ?_
        rintro e w3 ⟨rfl, hb3⟩
        have B3 := B2.trans (hb3.mono B2.size)
        have X3 : Arr w3 w.heap.size 24 .u8 x := Block.below X2 hb3 (Block.lt X2)
        have ra3 := Block.below ra2 hb3 (Block.lt ra2)
        have M1 := Block.lt ra3
        have z3 := res_new w3 24
        clear B2 X2 ra2 hb3
        generalize w1.heap.size = ba at *
        go_wp2_with (first
          | (have _t := z3; refine wpList_store_arr rfl _ _ _ rfl z3 rfl rfl (by rw [le.out]; rfl) (by rw [le.out]; kernel_rfl) ?_; intro w4 rb4 g4; have B4 := below_kept B3 g4; have X4 := Arr.kept1 X3 g4; have ra4 := Arr.kept1 ra3 g4; have z4 := res_new w4 24; have M2 := Block.lt rb4; clear _t z3 B3 X3 ra3 g4)
          | (have _t := z4; refine wpList_load_mid rfl _ _ rfl b2 (off2 + r.length * 32) rfl (dcells q) _ (Hrg.out _ B4) arr32A rfl (by unfold dcells; rw [List.length_map, lq.out]; kernel_rfl) ?_)
          | (have _t := z4; refine wpList_store_arr rfl _ _ _ rfl (ys := q) z4 rfl rfl (by rw [lq.out]; rfl) (by rw [lq.out]; kernel_rfl) ?_; intro w5 ru5 g5; have B5 := below_kept B4 g5; have X5 := Arr.kept1 X4 g5; have ra5 := Arr.kept1 ra4 g5; have rb5 := Arr.kept1 rb4 g5; have z5 := res_new w5 24; have M3 := Block.lt ru5; clear _t z4 B4 X4 ra4 rb4 g5)
          | (have _t := z5; refine wpList_load_mid rfl _ _ rfl b2 (off2 + r.length * 32) rfl (dcells q) _ (Hrg.out _ B5) arr32A rfl (by unfold dcells; rw [List.length_map, lq.out]; kernel_rfl) ?_)
          | (have _t := z5; refine wpList_store_arr rfl _ _ _ rfl (ys := q) z5 rfl rfl (by rw [lq.out]; rfl) (by rw [lq.out]; kernel_rfl) ?_; intro w6 rv6 g6; have B6 := below_kept B5 g6; have X6 := Arr.kept1 X5 g6; have ra6 := Arr.kept1 ra5 g6; have rb6 := Arr.kept1 rb5 g6; have ru6 := Arr.kept1 ru5 g6; have M4 := Block.lt rv6; clear _t z5 B5 X5 ra5 rb5 ru5 g6))
        generalize w3.heap.size = bb at *
        generalize w4.heap.size = bu at *
        generalize w5.heap.size = bv at *
        clear M4
        have B7 := below_draws B6 1
        have X7 := Arr.drewN X6 1
        have ra7 := Arr.drewN ra6 1
        have rb7 := Arr.drewN rb6 1
        have ru7 := Arr.drewN ru6 1
        have rv7 := Arr.drewN rv6 1
        clear B6 X6 ra6 rb6 ru6 rv6
        refine wp_region_held_drew (S := (fun W => Arr W w.heap.size 24 .u8 x)) (by kernel_rfl) X7 (fun hS => ?_)
        refine wpAnyH_take (i := 0) (v := .agg (dcells x).toArray) rfl (by kernel_rfl) (by kernel_rfl) (by kernel_rfl) (fun _ _ _ h => h) (yieldsIf_load_mid (by rfl) _ _ rfl w.heap.size 0 rfl (dcells x) _ (fun W hW => Arr.range hW) arr32A rfl (by unfold dcells; rw [List.length_map, lx.out]; kernel_rfl)) hS ?_
        try simp only [Act.put, List.setIfInBounds_toArray]
        refine wpAnyH_take (i := 1) (v := .int .i64 i) rfl (by kernel_rfl) (by kernel_rfl) (by kernel_rfl) (fun _ _ _ h => h) (Or.inl ⟨by rfl, fun W _ => by go_simp⟩) hS ?_
        try simp only [Act.put]
        refine wpAnyH_take (i := 2) (v := .int .i64 k) rfl (by kernel_rfl) (by kernel_rfl) (by kernel_rfl) (fun _ _ _ h => h) (Or.inl ⟨by rfl, fun W _ => by go_simp⟩) hS ?_
        try simp only [Act.put]
        refine wpAnyH_take (i := 3) (v := .int .i64 ((i : Int) - k)) rfl (by kernel_rfl) (by kernel_rfl) (by kernel_rfl) (fun _ _ _ h => h) (Or.inl ⟨by rfl, fun W _ => by go_simp; exact IntWalk.i64_in _ (by omega)⟩) hS ?_
        try simp only [Act.put]
        refine wpAnyH_take (i := 4) (v := .slice (some ⟨b, off, none⟩) l.length c) rfl (by kernel_rfl) (by kernel_rfl) (by kernel_rfl) (fun _ _ _ h => h) (Or.inl ⟨by rfl, fun W _ => by go_simp⟩) hS ?_
        try simp only [Act.put]
        refine wpAnyH_take (i := 5) (v := .int .i64 l.length) rfl (by kernel_rfl) (by kernel_rfl) (by kernel_rfl) (fun _ _ _ h => h) (Or.inl ⟨by rfl, fun W _ => by go_simp⟩) hS ?_
        try simp only [Act.put]
        refine wpAnyH_take (i := 6) (v := .int .i64 k) rfl (by kernel_rfl) (by kernel_rfl) (by kernel_rfl) (fun _ _ _ h => h) (Or.inl ⟨by rfl, fun W _ => by go_simp⟩) hS ?_
        try simp only [Act.put]
        refine wpAnyH_take (i := 7) (v := .int .i64 ((l.length : Int) - k)) rfl (by kernel_rfl) (by kernel_rfl) (by kernel_rfl) (fun _ _ _ h => h) (Or.inl ⟨by rfl, fun W _ => by go_simp; exact IntWalk.i64_in _ (by omega)⟩) hS ?_
        try simp only [Act.put]
        refine wpAnyH_take (i := 8) (v := .slice (some ⟨b2, off2, none⟩) (r.length + 1) d) rfl (by kernel_rfl) (by kernel_rfl) (by kernel_rfl) (fun _ _ _ h => h) (Or.inl ⟨by rfl, fun W _ => by go_simp⟩) hS ?_
        try simp only [Act.put]
        refine wpAnyH_take (i := 9) (v := .int .i64 r.length) rfl (by kernel_rfl) (by kernel_rfl) (by kernel_rfl) (fun _ _ _ h => h) (Or.inl ⟨by rfl, fun W _ => by go_simp⟩) hS ?_
        try simp only [Act.put]
        refine wpAnyH_take (i := 10) (v := .slice (some ⟨b2, off2, none⟩) r.length d) rfl (by kernel_rfl) (by kernel_rfl) (by kernel_rfl) (fun _ _ _ h => h) (Or.inl ⟨by rfl, fun W _ => by go_simp <;> first | (intro h; omega) | (rw [if_pos kl]) | (rw [if_pos kl, if_neg kc]) | (rw [if_pos kw])⟩) hS ?_
        try simp only [Act.put]
        refine wpAnyH_ready (rs := [11]) (by kernel_rfl) (by simp) ?_
        refine AllReadyH.cons rfl (fun K hK => ?_) AllReadyH.nil
        go_simp
        go_at_call 39
        refine (GL.out _ B7).mono ?_
        rintro e w8 ⟨rfl, hb8⟩
        have B8 := B7.trans (hb8.mono B7.size)
        have X8 : Arr w8 w.heap.size 24 .u8 x := Block.below X7 hb8 (Block.lt X7)
        have ra8 := Block.below ra7 hb8 (Block.lt ra7)
        have rb8 := Block.below rb7 hb8 (Block.lt rb7)
        have ru8 := Block.below ru7 hb8 (Block.lt ru7)
        have rv8 := Block.below rv7 hb8 (Block.lt rv7)
        refine hK.out _ _ X8 (fun hS => ?_)
        clear hK K
        try simp only [Act.put, List.setIfInBounds_toArray, List.set_cons_zero, List.set_cons_succ]
        refine wpAnyH_ready (rs := [12]) (by kernel_rfl) (by simp) ?_
        refine AllReadyH.cons rfl (fun K hK => ?_) AllReadyH.nil
        refine step_store_arr rfl _ _ _ rfl (ys := u) rv8 rfl rfl (by rw [lu.out, lq.out]) (by rw [lu.out]; kernel_rfl) ?_
        intro w9 rv9 g9
        have X9 := Arr.grown X8 g9 (by intro e; injection e with e; omega)
        have ra9 := Arr.grown ra8 g9 (by intro e; injection e with e; omega)
        have rb9 := Arr.grown rb8 g9 (by intro e; injection e with e; omega)
        have ru9 := Arr.grown ru8 g9 (by intro e; injection e with e; omega)
        have B9 := B8.trans (below_of_grown g9 B8.size (fun b hb => by injection hb with hb; omega))
        refine hK.out _ _ X9 (fun hS => ?_)
        clear hK K
        try simp only [Act.put, List.setIfInBounds_toArray]
        refine wpAnyH_done (by kernel_rfl) ?_ _
        clear hS B7 X7 ra7 rb7 ru7 rv7 B8 X8 ra8 rb8 ru8 rv8 hb8 g9
        go_wp2_with fail
        have B10 := below_draws B9 1
        have X10 := Arr.drewN X9 1
        have ra10 := Arr.drewN ra9 1
        have rb10 := Arr.drewN rb9 1
        have ru10 := Arr.drewN ru9 1
        have rv10 := Arr.drewN rv9 1
        have htw : ∃ tw : Bool, ((strOfNums z1).toList == (strOfNums z2).toList) = !tw := ⟨!((strOfNums z1).toList == (strOfNums z2).toList), by simp⟩
        obtain ⟨tw, htw⟩ := htw
        go_cut [70] from 62 to 70 (fun s70 wx => s70 = .bool tw ∧ Arr wx ba 24 .u8 a ∧ Arr wx bb 24 .u8 e0 ∧ Arr wx bu 24 .u8 q ∧ Arr wx bv 24 .u8 u ∧ Arr wx w.heap.size 24 .u8 x ∧ Below w.heap.size w wx)
        case first =>
          refine wp_region_held_drew (S := (fun W => Arr W ba 24 .u8 a ∧ Arr W bb 24 .u8 e0 ∧ Arr W bu 24 .u8 q ∧ Arr W bv 24 .u8 u)) (by kernel_rfl) ⟨ra10, rb10, ru10, rv10⟩ (fun hS => ?_)
          refine wpAnyH_take (i := 0) (v := .agg (dcells a).toArray) rfl (by kernel_rfl) (by kernel_rfl) (by kernel_rfl) (fun _ _ _ h => h) (yieldsIf_load_mid (by rfl) _ _ rfl ba 0 rfl (dcells a) _ (fun W hW => Arr.range hW.1) arr32A rfl (by unfold dcells; rw [List.length_map, la.out]; kernel_rfl)) hS ?_
          try simp only [Act.put, List.setIfInBounds_toArray]
          refine wpAnyH_take (i := 1) (v := .agg (dcells e0).toArray) rfl (by kernel_rfl) (by kernel_rfl) (by kernel_rfl) (fun _ _ _ h => h) (yieldsIf_load_mid (by rfl) _ _ rfl bb 0 rfl (dcells e0) _ (fun W hW => Arr.range hW.2.1) arr32A rfl (by unfold dcells; rw [List.length_map, le.out]; kernel_rfl)) hS ?_
          try simp only [Act.put]
          refine wpAnyH_take (i := 4) (v := .agg (dcells q).toArray) rfl (by kernel_rfl) (by kernel_rfl) (by kernel_rfl) (fun _ _ _ h => h) (yieldsIf_load_mid (by rfl) _ _ rfl bu 0 rfl (dcells q) _ (fun W hW => Arr.range hW.2.2.1) arr32A rfl (by unfold dcells; rw [List.length_map, lq.out]; kernel_rfl)) hS ?_
          try simp only [Act.put]
          refine wpAnyH_take (i := 5) (v := .agg (dcells u).toArray) rfl (by kernel_rfl) (by kernel_rfl) (by kernel_rfl) (fun _ _ _ h => h) (yieldsIf_load_mid (by rfl) _ _ rfl bv 0 rfl (dcells u) _ (fun W hW => Arr.range hW.2.2.2) arr32A rfl (by unfold dcells; rw [List.length_map, lu.out]; kernel_rfl)) hS ?_
          try simp only [Act.put]
          refine wpAnyH_ready (rs := [2]) (by kernel_rfl) (by simp) ?_
          refine AllReadyH.cons rfl (fun K hK => ?_) AllReadyH.nil
          go_simp
          go_at_call 72
          refine (GT1.out _).mono ?_
          rintro e w11 ⟨v11, rfl, own11, hb11⟩
          have B11 := B10.trans (hb11.mono B10.size)
          have X11 : Arr w11 w.heap.size 24 .u8 x := Block.below X10 hb11 (Block.lt X10)
          have ra11 := Block.below ra10 hb11 (Block.lt ra10)
          have rb11 := Block.below rb10 hb11 (Block.lt rb10)
          have ru11 := Block.below ru10 hb11 (Block.lt ru10)
          have rv11 := Block.below rv10 hb11 (Block.lt rv10)
          obtain ⟨P11, c11, rfl, k11, m11, H11⟩ := own11.opened
          have f11 := conv_mk w11 P11 z1 c11 _ H11
          refine hK.out _ _ ⟨ra11, rb11, ru11, rv11⟩ (fun hS => ?_)
          clear hK K
          try simp only [Act.put, List.setIfInBounds_toArray, List.set_cons_zero, List.set_cons_succ]
          refine wpAnyH_ready (rs := [3, 6]) (by kernel_rfl) (by simp) ?_
          refine AllReadyH.cons rfl (fun K hK => ?_) (AllReadyH.cons rfl (fun K hK => ?_) AllReadyH.nil)
          · go_simp
            refine hK.out _ _ ⟨ra11, rb11, ru11, rv11⟩ (fun hS => ?_)
            clear hK K
            try simp only [Act.put, List.setIfInBounds_toArray, List.set_cons_zero, List.set_cons_succ]
            refine wpAnyH_ready (rs := [6]) (by kernel_rfl) (by simp) ?_
            refine AllReadyH.cons rfl (fun K hK => ?_) AllReadyH.nil
            go_simp
            go_at_call 72
            refine (GT2.out _).mono ?_
            rintro e w12 ⟨v12, rfl, own12, hb12⟩
            have B12 := B11.trans (hb12.mono B11.size)
            have X12 : Arr w12 w.heap.size 24 .u8 x := Block.below X11 hb12 (Block.lt X11)
            have ra12 := Block.below ra11 hb12 (Block.lt ra11)
            have rb12 := Block.below rb11 hb12 (Block.lt rb11)
            have ru12 := Block.below ru11 hb12 (Block.lt ru11)
            have rv12 := Block.below rv11 hb12 (Block.lt rv11)
            obtain ⟨P12, c12, rfl, k12, m12, H12⟩ := own12.opened
            have f12 := conv_mk w12 P12 z2 c12 _ H12
            refine hK.out _ _ ⟨ra12, rb12, ru12, rv12⟩ (fun hS => ?_)
            clear hK K
            try simp only [Act.put, List.setIfInBounds_toArray, List.set_cons_zero, List.set_cons_succ]
            refine wpAnyH_ready (rs := [7]) (by kernel_rfl) (by simp) ?_
            refine AllReadyH.cons rfl (fun K hK => ?_) AllReadyH.nil
            go_simp
            refine hK.out _ _ ⟨ra12, rb12, ru12, rv12⟩ (fun hS => ?_)
            clear hK K
            try simp only [Act.put, List.setIfInBounds_toArray, List.set_cons_zero, List.set_cons_succ]
            refine wpAnyH_take (i := 8) (oi := ⟨some 70, .binOp .neq 9 (.tmp 65) (.tmp 69) 9, 4, "ref.go:95", _, none⟩) (v := .bool tw) rfl (by kernel_rfl) (by kernel_rfl) (by kernel_rfl) (fun _ _ _ h => h) (Or.inl ⟨by rfl, fun W _ => ?_⟩) hS ?_
            · exact neq_out htw rfl rfl
            try simp only [Act.put, List.setIfInBounds_toArray, List.set_cons_zero, List.set_cons_succ]
            refine wpAnyH_done (by kernel_rfl) ?_ _
            go_wp2_with fail
            go_meet
            exact ⟨rfl, ra12, rb12, ru12, rv12, X12, B12⟩
          · go_simp
            go_at_call 72
            refine (GT2.out _).mono ?_
            rintro e w12 ⟨v12, rfl, own12, hb12⟩
            have B12 := B11.trans (hb12.mono B11.size)
            have X12 : Arr w12 w.heap.size 24 .u8 x := Block.below X11 hb12 (Block.lt X11)
            have ra12 := Block.below ra11 hb12 (Block.lt ra11)
            have rb12 := Block.below rb11 hb12 (Block.lt rb11)
            have ru12 := Block.below ru11 hb12 (Block.lt ru11)
            have rv12 := Block.below rv11 hb12 (Block.lt rv11)
            obtain ⟨P12, c12, rfl, k12, m12, H12⟩ := own12.opened
            have f12 := conv_mk w12 P12 z2 c12 _ H12
            have f11' := conv_mk w12 P11 z1 c11 _ (H11.below hb12)
            refine hK.out _ _ ⟨ra12, rb12, ru12, rv12⟩ (fun hS => ?_)
            clear hK K
            try simp only [Act.put, List.setIfInBounds_toArray, List.set_cons_zero, List.set_cons_succ]
            refine wpAnyH_ready (rs := [3, 7]) (by kernel_rfl) (by simp) ?_
            refine AllReadyH.cons rfl (fun K hK => ?_) (AllReadyH.cons rfl (fun K hK => ?_) AllReadyH.nil)
            · go_simp
              refine hK.out _ _ ⟨ra12, rb12, ru12, rv12⟩ (fun hS => ?_)
              clear hK K
              try simp only [Act.put, List.setIfInBounds_toArray, List.set_cons_zero, List.set_cons_succ]
              refine wpAnyH_ready (rs := [7]) (by kernel_rfl) (by simp) ?_
              refine AllReadyH.cons rfl (fun K hK => ?_) AllReadyH.nil
              go_simp
              refine hK.out _ _ ⟨ra12, rb12, ru12, rv12⟩ (fun hS => ?_)
              clear hK K
              try simp only [Act.put, List.setIfInBounds_toArray, List.set_cons_zero, List.set_cons_succ]
              refine wpAnyH_take (i := 8) (oi := ⟨some 70, .binOp .neq 9 (.tmp 65) (.tmp 69) 9, 4, "ref.go:95", _, none⟩) (v := .bool tw) rfl (by kernel_rfl) (by kernel_rfl) (by kernel_rfl) (fun _ _ _ h => h) (Or.inl ⟨by rfl, fun W _ => ?_⟩) hS ?_
              · exact neq_out htw rfl rfl
              try simp only [Act.put, List.setIfInBounds_toArray, List.set_cons_zero, List.set_cons_succ]
              refine wpAnyH_done (by kernel_rfl) ?_ _
              go_wp2_with fail
              go_meet
              exact ⟨rfl, ra12, rb12, ru12, rv12, X12, B12⟩
            · go_simp
              refine hK.out _ _ ⟨ra12, rb12, ru12, rv12⟩ (fun hS => ?_)
              clear hK K
              try simp only [Act.put, List.setIfInBounds_toArray, List.set_cons_zero, List.set_cons_succ]
              refine wpAnyH_ready (rs := [3]) (by kernel_rfl) (by simp) ?_
              refine AllReadyH.cons rfl (fun K hK => ?_) AllReadyH.nil
              go_simp
              refine hK.out _ _ ⟨ra12, rb12, ru12, rv12⟩ (fun hS => ?_)
              clear hK K
              try simp only [Act.put, List.setIfInBounds_toArray, List.set_cons_zero, List.set_cons_succ]
              refine wpAnyH_take (i := 8) (oi := ⟨some 70, .binOp .neq 9 (.tmp 65) (.tmp 69) 9, 4, "ref.go:95", _, none⟩) (v := .bool tw) rfl (by kernel_rfl) (by kernel_rfl) (by kernel_rfl) (fun _ _ _ h => h) (Or.inl ⟨by rfl, fun W _ => ?_⟩) hS ?_
              · exact neq_out htw rfl rfl
              try simp only [Act.put, List.setIfInBounds_toArray, List.set_cons_zero, List.set_cons_succ]
              refine wpAnyH_done (by kernel_rfl) ?_ _
              go_wp2_with fail
              go_meet
              exact ⟨rfl, ra12, rb12, ru12, rv12, X12, B12⟩
        case rest =>
          obtain ⟨rfl, ra, rb, ru, rv, X, B⟩ := hcut
          clear B10 X10 ra10 rb10 ru10 rv10 B9 X9 ra9 rb9 ru9 rv9
          cases tw
          case false =>
            obtain ⟨eu, ev⟩ := Hstr.out (bytes_inj (by have h0 := eq_of_beq htw; rwa [ByteArray.toList_eq, ByteArray.toList_eq] at h0))
            have GI := Lib.hid (fun W hB => GI.out W hB ev)
            go_wp2_with fail
            have X2 := Arr.drewN X 1
            have B2 := below_draws B 1
            refine wp_region_held_drew (S := (fun W => Arr W w.heap.size 24 .u8 x)) (by kernel_rfl) X2 (fun hS => ?_)
            refine wpAnyH_take (i := 0) (v := .slice (some ⟨b, off, none⟩) l.length c) rfl (by kernel_rfl) (by kernel_rfl) (by kernel_rfl) (fun _ _ _ h => h) (Or.inl ⟨by rfl, fun W _ => by go_simp⟩) hS ?_
            try simp only [Act.put, List.setIfInBounds_toArray, List.set_cons_succ]
            refine wpAnyH_take (i := 1) (v := .int .i64 k) rfl (by kernel_rfl) (by kernel_rfl) (by kernel_rfl) (fun _ _ _ h => h) (Or.inl ⟨by rfl, fun W _ => by go_simp⟩) hS ?_
            try simp only [Act.put, List.setIfInBounds_toArray, List.set_cons_zero, List.set_cons_succ]
            refine wpAnyH_take (i := 2) (v := .slice (some ⟨b, off + k * 32, none⟩) (l.length - k) (c - k)) rfl (by kernel_rfl) (by kernel_rfl) (by kernel_rfl) (fun _ _ _ h => h) (Or.inl ⟨by rfl, fun W _ => by go_simp <;> first | (intro h; omega) | (rw [if_pos kl]) | (rw [if_pos kl, if_neg kc]) | (rw [if_pos kw])⟩) hS ?_
            try simp only [Act.put, List.setIfInBounds_toArray, List.set_cons_zero, List.set_cons_succ]
            refine wpAnyH_take (i := 3) (v := .agg (dcells x).toArray) rfl (by kernel_rfl) (by kernel_rfl) (by kernel_rfl) (fun _ _ _ h => h) (yieldsIf_load_mid (by rfl) _ _ rfl w.heap.size 0 rfl (dcells x) _ (fun W hW => Arr.range hW) arr32A rfl (by unfold dcells; rw [List.length_map, lx.out]; kernel_rfl)) hS ?_
            try simp only [Act.put, List.setIfInBounds_toArray, List.set_cons_zero, List.set_cons_succ]
            refine wpAnyH_take (i := 4) (v := .int .i64 i) rfl (by kernel_rfl) (by kernel_rfl) (by kernel_rfl) (fun _ _ _ h => h) (Or.inl ⟨by rfl, fun W _ => by go_simp⟩) hS ?_
            try simp only [Act.put, List.setIfInBounds_toArray, List.set_cons_zero, List.set_cons_succ]
            refine wpAnyH_take (i := 5) (v := .int .i64 k) rfl (by kernel_rfl) (by kernel_rfl) (by kernel_rfl) (fun _ _ _ h => h) (Or.inl ⟨by rfl, fun W _ => by go_simp⟩) hS ?_
            try simp only [Act.put, List.setIfInBounds_toArray, List.set_cons_zero, List.set_cons_succ]
            refine wpAnyH_take (i := 6) (v := .int .i64 ((i : Int) - k)) rfl (by kernel_rfl) (by kernel_rfl) (by kernel_rfl) (fun _ _ _ h => h) (Or.inl ⟨by rfl, fun W _ => by go_simp; exact IntWalk.i64_in _ (by omega)⟩) hS ?_
            try simp only [Act.put, List.setIfInBounds_toArray, List.set_cons_zero, List.set_cons_succ]
            refine wpAnyH_take (i := 7) (v := .slice (some ⟨b2, off2, none⟩) (r.length + 1) d) rfl (by kernel_rfl) (by kernel_rfl) (by kernel_rfl) (fun _ _ _ h => h) (Or.inl ⟨by rfl, fun W _ => by go_simp⟩) hS ?_
            try simp only [Act.put, List.setIfInBounds_toArray, List.set_cons_zero, List.set_cons_succ]
            refine wpAnyH_take (i := 8) (v := .int .i64 r.length) rfl (by kernel_rfl) (by kernel_rfl) (by kernel_rfl) (fun _ _ _ h => h) (Or.inl ⟨by rfl, fun W _ => by go_simp⟩) hS ?_
            try simp only [Act.put, List.setIfInBounds_toArray, List.set_cons_zero, List.set_cons_succ]
            refine wpAnyH_take (i := 9) (v := .slice (some ⟨b2, off2, none⟩) r.length d) rfl (by kernel_rfl) (by kernel_rfl) (by kernel_rfl) (fun _ _ _ h => h) (Or.inl ⟨by rfl, fun W _ => by go_simp <;> first | (intro h; omega) | (rw [if_pos kl]) | (rw [if_pos kl, if_neg kc]) | (rw [if_pos kw])⟩) hS ?_
            try simp only [Act.put, List.setIfInBounds_toArray, List.set_cons_zero, List.set_cons_succ]
            refine wpAnyH_ready (rs := [10]) (by kernel_rfl) (by simp) ?_
            refine AllReadyH.cons rfl (fun K hK => ?_) AllReadyH.nil
            go_simp
            go_at_call 40
            refine (GI.out _ B2).mono ?_
            rintro e w3 ⟨rfl, hb3⟩
            have B3 := B2.trans (hb3.mono B2.size)
            have X3 : Arr w3 w.heap.size 24 .u8 x := Block.below X2 hb3 (Block.lt X2)
            refine hK.out _ _ X3 (fun hS => ?_)
            clear hK K
            try simp only [Act.put, List.setIfInBounds_toArray, List.set_cons_zero, List.set_cons_succ]
            refine wpAnyH_ready (rs := [11]) (by kernel_rfl) (by simp) ?_
            refine AllReadyH.cons rfl (fun K hK => ?_) AllReadyH.nil
            go_simp
            refine hK.out _ _ X3 (fun hS => ?_)
            clear hK K
            try simp only [Act.put, List.setIfInBounds_toArray, List.set_cons_zero, List.set_cons_succ]
            refine wpAnyH_done (by kernel_rfl) ?_ _
            go_wp2_with fail
            go_ret
            exact ⟨rfl, B3⟩
          case true =>
            go_wp2_with fail
            refine wp_region_quiet_below (by kernel_rfl) (by kernel_rfl) ?_
            refine wpQuiet_step (fun K hK => ?_)
            refine quiet_load_row (by rfl) 24 _ (by rfl) ba 0 (by rfl) (dcells a) _ (range_regrown (Arr.range ra)) arr32A (by rfl) (by unfold dcells; rw [List.length_map, la.out]; kernel_rfl) ?_
            go_simp
            refine hK _ ?_
            clear hK K
            refine wpQuiet_step (fun K hK => ?_)
            refine quiet_load_row (by rfl) 24 _ (by rfl) bb 0 (by rfl) (dcells e0) _ (range_regrown (Arr.range rb)) arr32A (by rfl) (by unfold dcells; rw [List.length_map, le.out]; kernel_rfl) ?_
            go_simp
            refine hK _ ?_
            clear hK K
            go_big_quiet_step (exact Calls.regrown_of (GP1.out _))
            refine wpQuiet_step (fun K hK => ?_)
            refine quiet_load_row (by rfl) 24 _ (by rfl) bu 0 (by rfl) (dcells q) _ (range_regrown (Arr.range ru)) arr32A (by rfl) (by unfold dcells; rw [List.length_map, lq.out]; kernel_rfl) ?_
            go_simp
            refine hK _ ?_
            clear hK K
            refine wpQuiet_step (fun K hK => ?_)
            refine quiet_load_row (by rfl) 24 _ (by rfl) bv 0 (by rfl) (dcells u) _ (range_regrown (Arr.range rv)) arr32A (by rfl) (by unfold dcells; rw [List.length_map, lu.out]; kernel_rfl) ?_
            go_simp
            refine hK _ ?_
            clear hK K
            go_big_quiet_step (exact Calls.regrown_of (GP2.out _))
            repeat (go_big_quiet_step (fail))
            refine wpQuiet_nil ?_
            intro _ hw'
            obtain ⟨⟨dq, osq⟩, hw''⟩ := hw'
            have hbq := below_regrown wc dq osq
            subst hw''
            go_wp2_with fail
            go_ret
            exact ⟨rfl, B.trans (hbq.mono B.size)⟩
    · exfalso
      have h1 : l.length = 1 := by omega
      obtain ⟨d0, rfl⟩ : ∃ d, l = [d] := by match l, h1 with | [d], _ => exact ⟨d, rfl⟩
      obtain rfl : i = 0 := by simp at hi; exact hi
      rw [leadL_one (by simp), rootL_one] at hle
      exact hne (by rw [hle]; rfl)
end Go.Proofs.YtdfgdchmeikigaaDoor.Mk
