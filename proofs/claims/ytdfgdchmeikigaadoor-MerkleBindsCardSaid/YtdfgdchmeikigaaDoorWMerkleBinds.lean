/-
  MerkleBinds: the walk: if a way leads something to the root of sums, it is that leaf's sum, or two texts are told that have one sum.
-/
import Derived.Test.YtdfgdchmeikigaaDoorMkU
import Derived.Test.YtdfgdchmeikigaaDoorMkW
import Derived.Deep.CutBlock
namespace Go.Proofs.YtdfgdchmeikigaaDoor.MerkleBinds
open Go.ChangeShapes Go.WideShapes Go.ChangeAt Go.RowKit Go.Proofs.YtdfgdchmeikigaaDoor.Kit Go.Proofs.YtdfgdchmeikigaaDoor.Sha Go.Proofs.YtdfgdchmeikigaaDoor.Mk

theorem arr_eq2 (ys zs : List Int) (hy : D32 ys) (hz : D32 zs) (w : World) : (binOp .eql 24 (arrV .u8 ys) (arrV .u8 zs)).run Tryd.prog w = .ok (.bool (decide (ys = zs))) w :=
  run_eql_arr (P := Tryd.prog) (w := w) (t := 24) (e := 5) (k := .u8) (k' := .u8) ys zs (by rw [hy.1]; exact Tryd.underlying24) (Option.eq_some_of_isSome (by kernel_rfl)) (by kernel_rfl) Tryd.underlying5 (by kernel_rfl) (by rw [hy.1, hz.1])

set_option maxRecDepth 100000 in
set_option maxHeartbeats 12800000 in
theorem walk (B1 : Option Addr) (l : List (List Int)) (d1 : Nat) (x : List Int) (z : Int) (B2 : Option Addr) (ws : List (List Int)) (d2 : Nat) (w : World) (hd1 : l.length ≤ d1) (hm1 : d1 ≤ maxLen) (hl : HoldsD w w.heap.size B1 l) (hxl : x.length = 32) (hxo : Octets x) (hz : (Lit.int .i64 z).wf = true)
    (hd2 : ws.length ≤ d2) (hm2 : d2 ≤ maxLen) (hs : HoldsD w w.heap.size B2 ws) (hsz : ws.length * 32 ≤ 140737488351232) (hL : LaidS w) :
    Calls Tryd.prog 10 #[.slice B1 l.length d1, arrV .u8 x, .int .i64 z, .slice B2 ws.length d2] w fun e w' => e = .returned (.bool true) ∧ Below w.heap.size w w' := by
  have hzb := bounds_i64 hz
  have bxB := below_new (w := w) (.cells (x.map (Value.int .u8)).toArray 24)
  unfold arrV
  by_cases h4 : (100 : Int) < l.length
  · have dd : decide ((100 : Int) < (l.length : Int)) = true := decide_eq_true h4
    unfold maxLen at hm1 hm2
    have HL1 := hL.below bxB
    go_enter Tryd.func10, Tryd.ntmps10
    go_wp2_with (go_at_call 25; refine (awake_any _ HL1).mono ?_; rintro e w1 ⟨rfl, hb1⟩)
    go_ret
    exact ⟨rfl, bxB.trans (hb1.mono bxB.size)⟩
  have dd : decide ((100 : Int) < (l.length : Int)) = false := decide_eq_false h4
  by_cases hi : z < 0 ∨ (l.length : Int) ≤ z
  · have ht : ∃ t1 t2 : Bool, decide (z < 0) = t1 ∧ decide ((l.length : Int) ≤ z) = t2 ∧ (t1 = true ∨ t2 = true) := ⟨_, _, rfl, rfl, by simp only [decide_eq_true_eq]; exact hi⟩
    obtain ⟨t1, t2, dt1, dt2, ht⟩ := ht
    clear hi hz hs hl
    unfold maxLen at hm1 hm2
    have HL1 := hL.below bxB
    cases t1 <;> cases t2
    case false.false => simp at ht
    all_goals
      clear ht
      go_enter Tryd.func10, Tryd.ntmps10
      go_wp2_with (go_at_call 25; refine (awake_any _ HL1).mono ?_; rintro e w1 ⟨rfl, hb1⟩)
      go_ret
      exact ⟨rfl, bxB.trans (hb1.mono bxB.size)⟩
  obtain ⟨i, rfl⟩ := Int.eq_ofNat_of_zero_le (show 0 ≤ z by omega)
  have hil : i < l.length := by omega
  have dt1 : decide ((i : Int) < 0) = false := decide_eq_false (by omega)
  have dt2 : decide (l.length ≤ i) = false := decide_eq_false (by omega)
  have hxd : D32 x := ⟨hxl, hxo⟩
  have hall := hl.all
  obtain ⟨Y, E, hY, GL, hcase⟩ := lead_case x i l.length ws w hxd (by omega) hL
  have g1 := Lib.hid (fun W (hb : Below w.heap.size w W) => digests_big B2 ws d2 W hd2 hm2 (hs.on hb) hsz)
  have g2 := Lib.hid (fun W (hb : Below w.heap.size w W) => digests_any B1 l d1 W hd1 hm1 (hl.on hb) (by omega))
  have g4 := Lib.hid (fun W A' c' (hb : Below w.heap.size w W) (h1 : l.length ≤ c') (h2 : c' ≤ maxLen) (h : HoldsD W W.heap.size A' l) => root_any l.length A' l c' W rfl h1 h2 h (hL.below hb))
  have hud : D32 (rootL l) := rootL_d32 hall (by omega)
  have hY := Lib.hid hY
  have Hxl := Lib.hid hxl
  have GL := Lib.hid GL
  have Hcase := Lib.hid hcase
  have Hs := Lib.hid hs
  have Hl := Lib.hid hl
  obtain ⟨b, off, rfl, hbl, hq0, hq⟩ := hl.at_ hil
  have hrg := Lib.hid (fun W (hB : Below w.heap.size w W) => (show W.rangeAt b (off + i * 32) (dcells l[i]) from fun j v hj => (hB.cell (p := ⟨b, off + i * 32 + j, none⟩) hbl).trans (hq0 j v hj)))
  have hql := Lib.hid hq.1
  have X00 : Arr (w.alloc (.cells (x.map (Value.int .u8)).toArray 24)) w.heap.size 24 .u8 x := Arr.new w _ _ _
  have hzz : ∀ W, (zeroValue 26).run Tryd.prog W = .ok (.agg #[.int .u8 0, .int .u8 0, .int .u8 0, .int .u8 0, .int .u8 0, .int .u8 0, .int .u8 0, .int .u8 0, .int .u8 0, .int .u8 0, .int .u8 0, .int .u8 0, .int .u8 0, .int .u8 0, .int .u8 0, .int .u8 0, .int .u8 0, .int .u8 0, .int .u8 0, .int .u8 0, .int .u8 0, .int .u8 0, .int .u8 0, .int .u8 0, .int .u8 0, .int .u8 0, .int .u8 0, .int .u8 0, .int .u8 0, .int .u8 0, .int .u8 0, .int .u8 0]) W := fun _ => by kernel_rfl
  have ii : (i : Int) < (l.length : Int) := by omega
  have HH := Lib.hid (And.intro hd1 (And.intro hm1 (And.intro hd2 hm2)))
  clear hcase hs hl hxo hz hi hall hq0
  unfold maxLen at hm1 hm2
  go_enter Tryd.func10, Tryd.ntmps10
  go_wp2_with fail
  go_cut [9, 10] from 9 to 34 (fun s9 s10 wx => ∃ g : Nat, s9 = .pointer (some ⟨g, 0, none⟩) ∧ s10 = .int .i64 E ∧ w.heap.size < g ∧ Arr wx g 26 .u8 Y ∧ Arr wx w.heap.size 24 .u8 x ∧ Below w.heap.size w wx)
  case first =>
    have B00 := below_draws bxB 1
    have X00 := Arr.drewN X00 1
    obtain ⟨W0, hW0⟩ : ∃ W0, (w.alloc (.cells (x.map (Value.int .u8)).toArray 24)).drew = W0 := ⟨_, rfl⟩
    have B0 : Below w.heap.size w W0 := hW0 ▸ B00
    have X0 : Arr W0 w.heap.size 24 .u8 x := hW0 ▸ X00
    clear B00 X00 bxB
    refine wp_region_any (by kernel_rfl) ?_
    change wpAny _ _ _ _ _ _ _ (World.drew _)
    rw [hW0]
    clear hW0
    refine wpAny_take (i := 1) (v := .int .i64 i) rfl (by kernel_rfl) (by kernel_rfl) (by kernel_rfl) (fun _ _ _ h => h) (Or.inl ⟨by rfl, fun W => by go_simp⟩) ?_
    refine wpAny_take (i := 2) (v := .slice (some ⟨b, off, none⟩) l.length d1) rfl (by kernel_rfl) (by kernel_rfl) (by kernel_rfl) (fun _ _ _ h => h) (Or.inl ⟨by rfl, fun W => by go_simp⟩) ?_
    refine wpAny_take (i := 3) (v := .int .i64 l.length) rfl (by kernel_rfl) (by kernel_rfl) (by kernel_rfl) (fun _ _ _ h => h) (Or.inl ⟨by rfl, fun W => by go_simp⟩) ?_
    go_simp
    refine wpAny_take (i := 4) (v := .slice B2 ws.length d2) rfl (by kernel_rfl) (by kernel_rfl) (by kernel_rfl) (fun _ _ _ h => h) (Or.inl ⟨by rfl, fun W => by go_simp⟩) ?_
    go_simp
    refine wpAny_ready (rs := [0, 5, 10]) (by kernel_rfl) (by simp) ?_
    refine AllReady.cons rfl (fun K hK => ?_) (AllReady.cons rfl (fun K hK => ?_) (AllReady.cons rfl (fun K hK => ?_) AllReady.nil))
    · refine step_load_row (by rfl) _ _ rfl w.heap.size 0 (dcells x) rfl (Arr.range X0) arr32A rfl (by unfold dcells; rw [List.length_map, Hxl.out]; kernel_rfl) ?_
      go_simp
      refine hK _ _ ?_
      clear hK K
      refine wpAny_ready (rs := [5, 10]) (by kernel_rfl) (by simp) ?_
      refine AllReady.cons rfl (fun K hK => ?_) (AllReady.cons rfl (fun K hK => ?_) AllReady.nil)
      · go_simp
        go_at_call 29
        refine (g1.out _ B0).mono ?_
        rintro e w2 ⟨v2, rfl, own2, hb2⟩
        have B2 := B0.trans (hb2.mono B0.size)
        have X2 := Block.below X0 hb2 (Block.lt X0)
        obtain ⟨P2, c2, rfl, p2, m2, H2⟩ := own2.opened
        refine hK _ _ ?_
        clear hK K
        refine wpAny_ready (rs := [6, 10]) (by kernel_rfl) (by simp) ?_
        refine AllReady.cons rfl (fun K hK => ?_) (AllReady.cons rfl (fun K hK => ?_) AllReady.nil)
        · go_simp
          go_at_call 35
          refine (GL.out _ _ _ B2 p2 m2 H2).mono ?_
          rintro e w3 ⟨rfl, hb3⟩
          have B3 := B2.trans (hb3.mono B2.size)
          have X3 := Block.below X2 hb3 (Block.lt X2)
          refine hK _ _ ?_
          clear hK K
          refine wpAny_take (i := 7) (v := .tuple #[arrV .u8 Y, .int .i64 E]) rfl (by kernel_rfl) (by kernel_rfl) (by kernel_rfl) (fun _ _ _ h => h) (Or.inl ⟨by rfl, fun W => by go_simp⟩) ?_
          refine wpAny_take (i := 8) (v := arrV .u8 Y) rfl (by kernel_rfl) (by kernel_rfl) (by kernel_rfl) (fun _ _ _ h => h) (Or.inl ⟨by rfl, fun W => by go_simp⟩) ?_
          refine wpAny_take (i := 9) (v := .int .i64 E) rfl (by kernel_rfl) (by kernel_rfl) (by kernel_rfl) (fun _ _ _ h => h) (Or.inl ⟨by rfl, fun W => by go_simp⟩) ?_
          go_simp
          refine wpAny_ready (rs := [10]) (by kernel_rfl) (by simp) ?_
          refine AllReady.cons rfl (fun K hK => ?_) AllReady.nil
          have B4 := B3.alloc B3.size (.cells #[.int .u8 0, .int .u8 0, .int .u8 0, .int .u8 0, .int .u8 0, .int .u8 0, .int .u8 0, .int .u8 0, .int .u8 0, .int .u8 0, .int .u8 0, .int .u8 0, .int .u8 0, .int .u8 0, .int .u8 0, .int .u8 0, .int .u8 0, .int .u8 0, .int .u8 0, .int .u8 0, .int .u8 0, .int .u8 0, .int .u8 0, .int .u8 0, .int .u8 0, .int .u8 0, .int .u8 0, .int .u8 0, .int .u8 0, .int .u8 0, .int .u8 0, .int .u8 0] 26)
          have X4 := Arr.alloc X3 (.cells #[.int .u8 0, .int .u8 0, .int .u8 0, .int .u8 0, .int .u8 0, .int .u8 0, .int .u8 0, .int .u8 0, .int .u8 0, .int .u8 0, .int .u8 0, .int .u8 0, .int .u8 0, .int .u8 0, .int .u8 0, .int .u8 0, .int .u8 0, .int .u8 0, .int .u8 0, .int .u8 0, .int .u8 0, .int .u8 0, .int .u8 0, .int .u8 0, .int .u8 0, .int .u8 0, .int .u8 0, .int .u8 0, .int .u8 0, .int .u8 0, .int .u8 0, .int .u8 0] 26)
          have A4 : Arr (w3.alloc (.cells #[.int .u8 0, .int .u8 0, .int .u8 0, .int .u8 0, .int .u8 0, .int .u8 0, .int .u8 0, .int .u8 0, .int .u8 0, .int .u8 0, .int .u8 0, .int .u8 0, .int .u8 0, .int .u8 0, .int .u8 0, .int .u8 0, .int .u8 0, .int .u8 0, .int .u8 0, .int .u8 0, .int .u8 0, .int .u8 0, .int .u8 0, .int .u8 0, .int .u8 0, .int .u8 0, .int .u8 0, .int .u8 0, .int .u8 0, .int .u8 0, .int .u8 0, .int .u8 0] 26)) w3.heap.size 26 .u8 (List.replicate 32 0) := Arr.new w3 26 .u8 (List.replicate 32 0)
          have G4 : w.heap.size < w3.heap.size := Block.lt X3
          go_simp
          refine hK _ _ ?_
          clear hK K
          refine wpAny_ready (rs := [11]) (by kernel_rfl) (by simp) ?_
          refine AllReady.cons rfl (fun K hK => ?_) AllReady.nil
          refine step_store_arr rfl _ _ _ rfl A4 rfl rfl (by rw [hY.out]; rfl) (by rw [hY.out]; kernel_rfl) ?_
          intro w9 r9 g9
          have hgl := G4
          have x9 := Arr.grown X4 g9 (by intro e; injection e with e; omega)
          have B9 := B4.trans (below_of_grown g9 B4.size (fun b hb => by injection hb with hb; omega))
          refine hK _ _ ?_
          clear hK K
          refine wpAny_ready (rs := [12]) (by kernel_rfl) (by simp) ?_
          refine AllReady.cons rfl (fun K hK => ?_) AllReady.nil
          go_simp
          refine hK _ _ ?_
          clear hK K
          refine wpAny_done (by kernel_rfl) ?_ _
          go_wp2_with fail
          go_meet
          exact ⟨_, rfl, rfl, hgl, r9, x9, B9⟩
        · have B5 := B2.alloc B2.size (.cells #[.int .u8 0, .int .u8 0, .int .u8 0, .int .u8 0, .int .u8 0, .int .u8 0, .int .u8 0, .int .u8 0, .int .u8 0, .int .u8 0, .int .u8 0, .int .u8 0, .int .u8 0, .int .u8 0, .int .u8 0, .int .u8 0, .int .u8 0, .int .u8 0, .int .u8 0, .int .u8 0, .int .u8 0, .int .u8 0, .int .u8 0, .int .u8 0, .int .u8 0, .int .u8 0, .int .u8 0, .int .u8 0, .int .u8 0, .int .u8 0, .int .u8 0, .int .u8 0] 26)
          have X5 := Arr.alloc X2 (.cells #[.int .u8 0, .int .u8 0, .int .u8 0, .int .u8 0, .int .u8 0, .int .u8 0, .int .u8 0, .int .u8 0, .int .u8 0, .int .u8 0, .int .u8 0, .int .u8 0, .int .u8 0, .int .u8 0, .int .u8 0, .int .u8 0, .int .u8 0, .int .u8 0, .int .u8 0, .int .u8 0, .int .u8 0, .int .u8 0, .int .u8 0, .int .u8 0, .int .u8 0, .int .u8 0, .int .u8 0, .int .u8 0, .int .u8 0, .int .u8 0, .int .u8 0, .int .u8 0] 26)
          have A5 : Arr (w2.alloc (.cells #[.int .u8 0, .int .u8 0, .int .u8 0, .int .u8 0, .int .u8 0, .int .u8 0, .int .u8 0, .int .u8 0, .int .u8 0, .int .u8 0, .int .u8 0, .int .u8 0, .int .u8 0, .int .u8 0, .int .u8 0, .int .u8 0, .int .u8 0, .int .u8 0, .int .u8 0, .int .u8 0, .int .u8 0, .int .u8 0, .int .u8 0, .int .u8 0, .int .u8 0, .int .u8 0, .int .u8 0, .int .u8 0, .int .u8 0, .int .u8 0, .int .u8 0, .int .u8 0] 26)) w2.heap.size 26 .u8 (List.replicate 32 0) := Arr.new w2 26 .u8 (List.replicate 32 0)
          have G5 : w.heap.size < w2.heap.size := Block.lt X2
          have H5 := H2.on (below_new (w := w2) (.cells #[.int .u8 0, .int .u8 0, .int .u8 0, .int .u8 0, .int .u8 0, .int .u8 0, .int .u8 0, .int .u8 0, .int .u8 0, .int .u8 0, .int .u8 0, .int .u8 0, .int .u8 0, .int .u8 0, .int .u8 0, .int .u8 0, .int .u8 0, .int .u8 0, .int .u8 0, .int .u8 0, .int .u8 0, .int .u8 0, .int .u8 0, .int .u8 0, .int .u8 0, .int .u8 0, .int .u8 0, .int .u8 0, .int .u8 0, .int .u8 0, .int .u8 0, .int .u8 0] 26))
          go_simp
          refine hK _ _ ?_
          clear hK K
          refine wpAny_ready (rs := [6]) (by kernel_rfl) (by simp) ?_
          refine AllReady.cons rfl (fun K hK => ?_) AllReady.nil
          go_simp
          go_at_call 35
          refine (GL.out _ _ _ B5 p2 m2 H5).mono ?_
          rintro e w6 ⟨rfl, hb6⟩
          have B6 := B5.trans (hb6.mono B5.size)
          have X6 := Block.below X5 hb6 (Block.lt X5)
          have A6 := Block.below A5 hb6 (Block.lt A5)
          refine hK _ _ ?_
          clear hK K
          refine wpAny_take (i := 7) (v := .tuple #[arrV .u8 Y, .int .i64 E]) rfl (by kernel_rfl) (by kernel_rfl) (by kernel_rfl) (fun _ _ _ h => h) (Or.inl ⟨by rfl, fun W => by go_simp⟩) ?_
          refine wpAny_take (i := 8) (v := arrV .u8 Y) rfl (by kernel_rfl) (by kernel_rfl) (by kernel_rfl) (fun _ _ _ h => h) (Or.inl ⟨by rfl, fun W => by go_simp⟩) ?_
          refine wpAny_take (i := 9) (v := .int .i64 E) rfl (by kernel_rfl) (by kernel_rfl) (by kernel_rfl) (fun _ _ _ h => h) (Or.inl ⟨by rfl, fun W => by go_simp⟩) ?_
          go_simp
          refine wpAny_ready (rs := [11]) (by kernel_rfl) (by simp) ?_
          refine AllReady.cons rfl (fun K hK => ?_) AllReady.nil
          refine step_store_arr rfl _ _ _ rfl A6 rfl rfl (by rw [hY.out]; rfl) (by rw [hY.out]; kernel_rfl) ?_
          intro w9 r9 g9
          have hgl := G5
          have x9 := Arr.grown X6 g9 (by intro e; injection e with e; omega)
          have B9 := B6.trans (below_of_grown g9 B6.size (fun b hb => by injection hb with hb; omega))
          refine hK _ _ ?_
          clear hK K
          refine wpAny_ready (rs := [12]) (by kernel_rfl) (by simp) ?_
          refine AllReady.cons rfl (fun K hK => ?_) AllReady.nil
          go_simp
          refine hK _ _ ?_
          clear hK K
          refine wpAny_done (by kernel_rfl) ?_ _
          go_wp2_with fail
          go_meet
          exact ⟨_, rfl, rfl, hgl, r9, x9, B9⟩
      · have B7 := B0.alloc B0.size (.cells #[.int .u8 0, .int .u8 0, .int .u8 0, .int .u8 0, .int .u8 0, .int .u8 0, .int .u8 0, .int .u8 0, .int .u8 0, .int .u8 0, .int .u8 0, .int .u8 0, .int .u8 0, .int .u8 0, .int .u8 0, .int .u8 0, .int .u8 0, .int .u8 0, .int .u8 0, .int .u8 0, .int .u8 0, .int .u8 0, .int .u8 0, .int .u8 0, .int .u8 0, .int .u8 0, .int .u8 0, .int .u8 0, .int .u8 0, .int .u8 0, .int .u8 0, .int .u8 0] 26)
        have X7 := Arr.alloc X0 (.cells #[.int .u8 0, .int .u8 0, .int .u8 0, .int .u8 0, .int .u8 0, .int .u8 0, .int .u8 0, .int .u8 0, .int .u8 0, .int .u8 0, .int .u8 0, .int .u8 0, .int .u8 0, .int .u8 0, .int .u8 0, .int .u8 0, .int .u8 0, .int .u8 0, .int .u8 0, .int .u8 0, .int .u8 0, .int .u8 0, .int .u8 0, .int .u8 0, .int .u8 0, .int .u8 0, .int .u8 0, .int .u8 0, .int .u8 0, .int .u8 0, .int .u8 0, .int .u8 0] 26)
        have A7 : Arr (W0.alloc (.cells #[.int .u8 0, .int .u8 0, .int .u8 0, .int .u8 0, .int .u8 0, .int .u8 0, .int .u8 0, .int .u8 0, .int .u8 0, .int .u8 0, .int .u8 0, .int .u8 0, .int .u8 0, .int .u8 0, .int .u8 0, .int .u8 0, .int .u8 0, .int .u8 0, .int .u8 0, .int .u8 0, .int .u8 0, .int .u8 0, .int .u8 0, .int .u8 0, .int .u8 0, .int .u8 0, .int .u8 0, .int .u8 0, .int .u8 0, .int .u8 0, .int .u8 0, .int .u8 0] 26)) W0.heap.size 26 .u8 (List.replicate 32 0) := Arr.new W0 26 .u8 (List.replicate 32 0)
        have G7 : w.heap.size < W0.heap.size := Block.lt X0
        go_simp
        refine hK _ _ ?_
        clear hK K
        refine wpAny_ready (rs := [5]) (by kernel_rfl) (by simp) ?_
        refine AllReady.cons rfl (fun K hK => ?_) AllReady.nil
        go_simp
        go_at_call 29
        refine (g1.out _ B7).mono ?_
        rintro e w8 ⟨v8, rfl, own8, hb8⟩
        have B8 := B7.trans (hb8.mono B7.size)
        have X8 := Block.below X7 hb8 (Block.lt X7)
        have A8 := Block.below A7 hb8 (Block.lt A7)
        obtain ⟨P8, c8, rfl, p8, m8, H8⟩ := own8.opened
        refine hK _ _ ?_
        clear hK K
        refine wpAny_ready (rs := [6]) (by kernel_rfl) (by simp) ?_
        refine AllReady.cons rfl (fun K hK => ?_) AllReady.nil
        go_simp
        go_at_call 35
        refine (GL.out _ _ _ B8 p8 m8 H8).mono ?_
        rintro e w9 ⟨rfl, hb9⟩
        have B9 := B8.trans (hb9.mono B8.size)
        have X9 := Block.below X8 hb9 (Block.lt X8)
        have A9 := Block.below A8 hb9 (Block.lt A8)
        refine hK _ _ ?_
        clear hK K
        refine wpAny_take (i := 7) (v := .tuple #[arrV .u8 Y, .int .i64 E]) rfl (by kernel_rfl) (by kernel_rfl) (by kernel_rfl) (fun _ _ _ h => h) (Or.inl ⟨by rfl, fun W => by go_simp⟩) ?_
        refine wpAny_take (i := 8) (v := arrV .u8 Y) rfl (by kernel_rfl) (by kernel_rfl) (by kernel_rfl) (fun _ _ _ h => h) (Or.inl ⟨by rfl, fun W => by go_simp⟩) ?_
        refine wpAny_take (i := 9) (v := .int .i64 E) rfl (by kernel_rfl) (by kernel_rfl) (by kernel_rfl) (fun _ _ _ h => h) (Or.inl ⟨by rfl, fun W => by go_simp⟩) ?_
        go_simp
        refine wpAny_ready (rs := [11]) (by kernel_rfl) (by simp) ?_
        refine AllReady.cons rfl (fun K hK => ?_) AllReady.nil
        refine step_store_arr rfl _ _ _ rfl A9 rfl rfl (by rw [hY.out]; rfl) (by rw [hY.out]; kernel_rfl) ?_
        intro w9 r9 g9
        have hgl := G7
        have x9 := Arr.grown X9 g9 (by intro e; injection e with e; omega)
        have B9 := B9.trans (below_of_grown g9 B9.size (fun b hb => by injection hb with hb; omega))
        refine hK _ _ ?_
        clear hK K
        refine wpAny_ready (rs := [12]) (by kernel_rfl) (by simp) ?_
        refine AllReady.cons rfl (fun K hK => ?_) AllReady.nil
        go_simp
        refine hK _ _ ?_
        clear hK K
        refine wpAny_done (by kernel_rfl) ?_ _
        go_wp2_with fail
        go_meet
        exact ⟨_, rfl, rfl, hgl, r9, x9, B9⟩
    · go_simp
      go_at_call 29
      refine (g1.out _ B0).mono ?_
      rintro e w10 ⟨v10, rfl, own10, hb10⟩
      have B10 := B0.trans (hb10.mono B0.size)
      have X10 := Block.below X0 hb10 (Block.lt X0)
      obtain ⟨P10, c10, rfl, p10, m10, H10⟩ := own10.opened
      refine hK _ _ ?_
      clear hK K
      refine wpAny_ready (rs := [0, 10]) (by kernel_rfl) (by simp) ?_
      refine AllReady.cons rfl (fun K hK => ?_) (AllReady.cons rfl (fun K hK => ?_) AllReady.nil)
      · refine step_load_row (by rfl) _ _ rfl w.heap.size 0 (dcells x) rfl (Arr.range X10) arr32A rfl (by unfold dcells; rw [List.length_map, Hxl.out]; kernel_rfl) ?_
        go_simp
        refine hK _ _ ?_
        clear hK K
        refine wpAny_ready (rs := [6, 10]) (by kernel_rfl) (by simp) ?_
        refine AllReady.cons rfl (fun K hK => ?_) (AllReady.cons rfl (fun K hK => ?_) AllReady.nil)
        · go_simp
          go_at_call 35
          refine (GL.out _ _ _ B10 p10 m10 H10).mono ?_
          rintro e w12 ⟨rfl, hb12⟩
          have B12 := B10.trans (hb12.mono B10.size)
          have X12 := Block.below X10 hb12 (Block.lt X10)
          refine hK _ _ ?_
          clear hK K
          refine wpAny_take (i := 7) (v := .tuple #[arrV .u8 Y, .int .i64 E]) rfl (by kernel_rfl) (by kernel_rfl) (by kernel_rfl) (fun _ _ _ h => h) (Or.inl ⟨by rfl, fun W => by go_simp⟩) ?_
          refine wpAny_take (i := 8) (v := arrV .u8 Y) rfl (by kernel_rfl) (by kernel_rfl) (by kernel_rfl) (fun _ _ _ h => h) (Or.inl ⟨by rfl, fun W => by go_simp⟩) ?_
          refine wpAny_take (i := 9) (v := .int .i64 E) rfl (by kernel_rfl) (by kernel_rfl) (by kernel_rfl) (fun _ _ _ h => h) (Or.inl ⟨by rfl, fun W => by go_simp⟩) ?_
          go_simp
          refine wpAny_ready (rs := [10]) (by kernel_rfl) (by simp) ?_
          refine AllReady.cons rfl (fun K hK => ?_) AllReady.nil
          have B13 := B12.alloc B12.size (.cells #[.int .u8 0, .int .u8 0, .int .u8 0, .int .u8 0, .int .u8 0, .int .u8 0, .int .u8 0, .int .u8 0, .int .u8 0, .int .u8 0, .int .u8 0, .int .u8 0, .int .u8 0, .int .u8 0, .int .u8 0, .int .u8 0, .int .u8 0, .int .u8 0, .int .u8 0, .int .u8 0, .int .u8 0, .int .u8 0, .int .u8 0, .int .u8 0, .int .u8 0, .int .u8 0, .int .u8 0, .int .u8 0, .int .u8 0, .int .u8 0, .int .u8 0, .int .u8 0] 26)
          have X13 := Arr.alloc X12 (.cells #[.int .u8 0, .int .u8 0, .int .u8 0, .int .u8 0, .int .u8 0, .int .u8 0, .int .u8 0, .int .u8 0, .int .u8 0, .int .u8 0, .int .u8 0, .int .u8 0, .int .u8 0, .int .u8 0, .int .u8 0, .int .u8 0, .int .u8 0, .int .u8 0, .int .u8 0, .int .u8 0, .int .u8 0, .int .u8 0, .int .u8 0, .int .u8 0, .int .u8 0, .int .u8 0, .int .u8 0, .int .u8 0, .int .u8 0, .int .u8 0, .int .u8 0, .int .u8 0] 26)
          have A13 : Arr (w12.alloc (.cells #[.int .u8 0, .int .u8 0, .int .u8 0, .int .u8 0, .int .u8 0, .int .u8 0, .int .u8 0, .int .u8 0, .int .u8 0, .int .u8 0, .int .u8 0, .int .u8 0, .int .u8 0, .int .u8 0, .int .u8 0, .int .u8 0, .int .u8 0, .int .u8 0, .int .u8 0, .int .u8 0, .int .u8 0, .int .u8 0, .int .u8 0, .int .u8 0, .int .u8 0, .int .u8 0, .int .u8 0, .int .u8 0, .int .u8 0, .int .u8 0, .int .u8 0, .int .u8 0] 26)) w12.heap.size 26 .u8 (List.replicate 32 0) := Arr.new w12 26 .u8 (List.replicate 32 0)
          have G13 : w.heap.size < w12.heap.size := Block.lt X12
          go_simp
          refine hK _ _ ?_
          clear hK K
          refine wpAny_ready (rs := [11]) (by kernel_rfl) (by simp) ?_
          refine AllReady.cons rfl (fun K hK => ?_) AllReady.nil
          refine step_store_arr rfl _ _ _ rfl A13 rfl rfl (by rw [hY.out]; rfl) (by rw [hY.out]; kernel_rfl) ?_
          intro w9 r9 g9
          have hgl := G13
          have x9 := Arr.grown X13 g9 (by intro e; injection e with e; omega)
          have B9 := B13.trans (below_of_grown g9 B13.size (fun b hb => by injection hb with hb; omega))
          refine hK _ _ ?_
          clear hK K
          refine wpAny_ready (rs := [12]) (by kernel_rfl) (by simp) ?_
          refine AllReady.cons rfl (fun K hK => ?_) AllReady.nil
          go_simp
          refine hK _ _ ?_
          clear hK K
          refine wpAny_done (by kernel_rfl) ?_ _
          go_wp2_with fail
          go_meet
          exact ⟨_, rfl, rfl, hgl, r9, x9, B9⟩
        · have B14 := B10.alloc B10.size (.cells #[.int .u8 0, .int .u8 0, .int .u8 0, .int .u8 0, .int .u8 0, .int .u8 0, .int .u8 0, .int .u8 0, .int .u8 0, .int .u8 0, .int .u8 0, .int .u8 0, .int .u8 0, .int .u8 0, .int .u8 0, .int .u8 0, .int .u8 0, .int .u8 0, .int .u8 0, .int .u8 0, .int .u8 0, .int .u8 0, .int .u8 0, .int .u8 0, .int .u8 0, .int .u8 0, .int .u8 0, .int .u8 0, .int .u8 0, .int .u8 0, .int .u8 0, .int .u8 0] 26)
          have X14 := Arr.alloc X10 (.cells #[.int .u8 0, .int .u8 0, .int .u8 0, .int .u8 0, .int .u8 0, .int .u8 0, .int .u8 0, .int .u8 0, .int .u8 0, .int .u8 0, .int .u8 0, .int .u8 0, .int .u8 0, .int .u8 0, .int .u8 0, .int .u8 0, .int .u8 0, .int .u8 0, .int .u8 0, .int .u8 0, .int .u8 0, .int .u8 0, .int .u8 0, .int .u8 0, .int .u8 0, .int .u8 0, .int .u8 0, .int .u8 0, .int .u8 0, .int .u8 0, .int .u8 0, .int .u8 0] 26)
          have A14 : Arr (w10.alloc (.cells #[.int .u8 0, .int .u8 0, .int .u8 0, .int .u8 0, .int .u8 0, .int .u8 0, .int .u8 0, .int .u8 0, .int .u8 0, .int .u8 0, .int .u8 0, .int .u8 0, .int .u8 0, .int .u8 0, .int .u8 0, .int .u8 0, .int .u8 0, .int .u8 0, .int .u8 0, .int .u8 0, .int .u8 0, .int .u8 0, .int .u8 0, .int .u8 0, .int .u8 0, .int .u8 0, .int .u8 0, .int .u8 0, .int .u8 0, .int .u8 0, .int .u8 0, .int .u8 0] 26)) w10.heap.size 26 .u8 (List.replicate 32 0) := Arr.new w10 26 .u8 (List.replicate 32 0)
          have G14 : w.heap.size < w10.heap.size := Block.lt X10
          have H14 := H10.on (below_new (w := w10) (.cells #[.int .u8 0, .int .u8 0, .int .u8 0, .int .u8 0, .int .u8 0, .int .u8 0, .int .u8 0, .int .u8 0, .int .u8 0, .int .u8 0, .int .u8 0, .int .u8 0, .int .u8 0, .int .u8 0, .int .u8 0, .int .u8 0, .int .u8 0, .int .u8 0, .int .u8 0, .int .u8 0, .int .u8 0, .int .u8 0, .int .u8 0, .int .u8 0, .int .u8 0, .int .u8 0, .int .u8 0, .int .u8 0, .int .u8 0, .int .u8 0, .int .u8 0, .int .u8 0] 26))
          go_simp
          refine hK _ _ ?_
          clear hK K
          refine wpAny_ready (rs := [6]) (by kernel_rfl) (by simp) ?_
          refine AllReady.cons rfl (fun K hK => ?_) AllReady.nil
          go_simp
          go_at_call 35
          refine (GL.out _ _ _ B14 p10 m10 H14).mono ?_
          rintro e w15 ⟨rfl, hb15⟩
          have B15 := B14.trans (hb15.mono B14.size)
          have X15 := Block.below X14 hb15 (Block.lt X14)
          have A15 := Block.below A14 hb15 (Block.lt A14)
          refine hK _ _ ?_
          clear hK K
          refine wpAny_take (i := 7) (v := .tuple #[arrV .u8 Y, .int .i64 E]) rfl (by kernel_rfl) (by kernel_rfl) (by kernel_rfl) (fun _ _ _ h => h) (Or.inl ⟨by rfl, fun W => by go_simp⟩) ?_
          refine wpAny_take (i := 8) (v := arrV .u8 Y) rfl (by kernel_rfl) (by kernel_rfl) (by kernel_rfl) (fun _ _ _ h => h) (Or.inl ⟨by rfl, fun W => by go_simp⟩) ?_
          refine wpAny_take (i := 9) (v := .int .i64 E) rfl (by kernel_rfl) (by kernel_rfl) (by kernel_rfl) (fun _ _ _ h => h) (Or.inl ⟨by rfl, fun W => by go_simp⟩) ?_
          go_simp
          refine wpAny_ready (rs := [11]) (by kernel_rfl) (by simp) ?_
          refine AllReady.cons rfl (fun K hK => ?_) AllReady.nil
          refine step_store_arr rfl _ _ _ rfl A15 rfl rfl (by rw [hY.out]; rfl) (by rw [hY.out]; kernel_rfl) ?_
          intro w9 r9 g9
          have hgl := G14
          have x9 := Arr.grown X15 g9 (by intro e; injection e with e; omega)
          have B9 := B15.trans (below_of_grown g9 B15.size (fun b hb => by injection hb with hb; omega))
          refine hK _ _ ?_
          clear hK K
          refine wpAny_ready (rs := [12]) (by kernel_rfl) (by simp) ?_
          refine AllReady.cons rfl (fun K hK => ?_) AllReady.nil
          go_simp
          refine hK _ _ ?_
          clear hK K
          refine wpAny_done (by kernel_rfl) ?_ _
          go_wp2_with fail
          go_meet
          exact ⟨_, rfl, rfl, hgl, r9, x9, B9⟩
      · have B16 := B10.alloc B10.size (.cells #[.int .u8 0, .int .u8 0, .int .u8 0, .int .u8 0, .int .u8 0, .int .u8 0, .int .u8 0, .int .u8 0, .int .u8 0, .int .u8 0, .int .u8 0, .int .u8 0, .int .u8 0, .int .u8 0, .int .u8 0, .int .u8 0, .int .u8 0, .int .u8 0, .int .u8 0, .int .u8 0, .int .u8 0, .int .u8 0, .int .u8 0, .int .u8 0, .int .u8 0, .int .u8 0, .int .u8 0, .int .u8 0, .int .u8 0, .int .u8 0, .int .u8 0, .int .u8 0] 26)
        have X16 := Arr.alloc X10 (.cells #[.int .u8 0, .int .u8 0, .int .u8 0, .int .u8 0, .int .u8 0, .int .u8 0, .int .u8 0, .int .u8 0, .int .u8 0, .int .u8 0, .int .u8 0, .int .u8 0, .int .u8 0, .int .u8 0, .int .u8 0, .int .u8 0, .int .u8 0, .int .u8 0, .int .u8 0, .int .u8 0, .int .u8 0, .int .u8 0, .int .u8 0, .int .u8 0, .int .u8 0, .int .u8 0, .int .u8 0, .int .u8 0, .int .u8 0, .int .u8 0, .int .u8 0, .int .u8 0] 26)
        have A16 : Arr (w10.alloc (.cells #[.int .u8 0, .int .u8 0, .int .u8 0, .int .u8 0, .int .u8 0, .int .u8 0, .int .u8 0, .int .u8 0, .int .u8 0, .int .u8 0, .int .u8 0, .int .u8 0, .int .u8 0, .int .u8 0, .int .u8 0, .int .u8 0, .int .u8 0, .int .u8 0, .int .u8 0, .int .u8 0, .int .u8 0, .int .u8 0, .int .u8 0, .int .u8 0, .int .u8 0, .int .u8 0, .int .u8 0, .int .u8 0, .int .u8 0, .int .u8 0, .int .u8 0, .int .u8 0] 26)) w10.heap.size 26 .u8 (List.replicate 32 0) := Arr.new w10 26 .u8 (List.replicate 32 0)
        have G16 : w.heap.size < w10.heap.size := Block.lt X10
        have H16 := H10.on (below_new (w := w10) (.cells #[.int .u8 0, .int .u8 0, .int .u8 0, .int .u8 0, .int .u8 0, .int .u8 0, .int .u8 0, .int .u8 0, .int .u8 0, .int .u8 0, .int .u8 0, .int .u8 0, .int .u8 0, .int .u8 0, .int .u8 0, .int .u8 0, .int .u8 0, .int .u8 0, .int .u8 0, .int .u8 0, .int .u8 0, .int .u8 0, .int .u8 0, .int .u8 0, .int .u8 0, .int .u8 0, .int .u8 0, .int .u8 0, .int .u8 0, .int .u8 0, .int .u8 0, .int .u8 0] 26))
        go_simp
        refine hK _ _ ?_
        clear hK K
        refine wpAny_ready (rs := [0]) (by kernel_rfl) (by simp) ?_
        refine AllReady.cons rfl (fun K hK => ?_) AllReady.nil
        refine step_load_row (by rfl) _ _ rfl w.heap.size 0 (dcells x) rfl (Arr.range X16) arr32A rfl (by unfold dcells; rw [List.length_map, Hxl.out]; kernel_rfl) ?_
        go_simp
        refine hK _ _ ?_
        clear hK K
        refine wpAny_ready (rs := [6]) (by kernel_rfl) (by simp) ?_
        refine AllReady.cons rfl (fun K hK => ?_) AllReady.nil
        go_simp
        go_at_call 35
        refine (GL.out _ _ _ B16 p10 m10 H16).mono ?_
        rintro e w18 ⟨rfl, hb18⟩
        have B18 := B16.trans (hb18.mono B16.size)
        have X18 := Block.below X16 hb18 (Block.lt X16)
        have A18 := Block.below A16 hb18 (Block.lt A16)
        refine hK _ _ ?_
        clear hK K
        refine wpAny_take (i := 7) (v := .tuple #[arrV .u8 Y, .int .i64 E]) rfl (by kernel_rfl) (by kernel_rfl) (by kernel_rfl) (fun _ _ _ h => h) (Or.inl ⟨by rfl, fun W => by go_simp⟩) ?_
        refine wpAny_take (i := 8) (v := arrV .u8 Y) rfl (by kernel_rfl) (by kernel_rfl) (by kernel_rfl) (fun _ _ _ h => h) (Or.inl ⟨by rfl, fun W => by go_simp⟩) ?_
        refine wpAny_take (i := 9) (v := .int .i64 E) rfl (by kernel_rfl) (by kernel_rfl) (by kernel_rfl) (fun _ _ _ h => h) (Or.inl ⟨by rfl, fun W => by go_simp⟩) ?_
        go_simp
        refine wpAny_ready (rs := [11]) (by kernel_rfl) (by simp) ?_
        refine AllReady.cons rfl (fun K hK => ?_) AllReady.nil
        refine step_store_arr rfl _ _ _ rfl A18 rfl rfl (by rw [hY.out]; rfl) (by rw [hY.out]; kernel_rfl) ?_
        intro w9 r9 g9
        have hgl := G16
        have x9 := Arr.grown X18 g9 (by intro e; injection e with e; omega)
        have B9 := B18.trans (below_of_grown g9 B18.size (fun b hb => by injection hb with hb; omega))
        refine hK _ _ ?_
        clear hK K
        refine wpAny_ready (rs := [12]) (by kernel_rfl) (by simp) ?_
        refine AllReady.cons rfl (fun K hK => ?_) AllReady.nil
        go_simp
        refine hK _ _ ?_
        clear hK K
        refine wpAny_done (by kernel_rfl) ?_ _
        go_wp2_with fail
        go_meet
        exact ⟨_, rfl, rfl, hgl, r9, x9, B9⟩
    · have B19 := B0.alloc B0.size (.cells #[.int .u8 0, .int .u8 0, .int .u8 0, .int .u8 0, .int .u8 0, .int .u8 0, .int .u8 0, .int .u8 0, .int .u8 0, .int .u8 0, .int .u8 0, .int .u8 0, .int .u8 0, .int .u8 0, .int .u8 0, .int .u8 0, .int .u8 0, .int .u8 0, .int .u8 0, .int .u8 0, .int .u8 0, .int .u8 0, .int .u8 0, .int .u8 0, .int .u8 0, .int .u8 0, .int .u8 0, .int .u8 0, .int .u8 0, .int .u8 0, .int .u8 0, .int .u8 0] 26)
      have X19 := Arr.alloc X0 (.cells #[.int .u8 0, .int .u8 0, .int .u8 0, .int .u8 0, .int .u8 0, .int .u8 0, .int .u8 0, .int .u8 0, .int .u8 0, .int .u8 0, .int .u8 0, .int .u8 0, .int .u8 0, .int .u8 0, .int .u8 0, .int .u8 0, .int .u8 0, .int .u8 0, .int .u8 0, .int .u8 0, .int .u8 0, .int .u8 0, .int .u8 0, .int .u8 0, .int .u8 0, .int .u8 0, .int .u8 0, .int .u8 0, .int .u8 0, .int .u8 0, .int .u8 0, .int .u8 0] 26)
      have A19 : Arr (W0.alloc (.cells #[.int .u8 0, .int .u8 0, .int .u8 0, .int .u8 0, .int .u8 0, .int .u8 0, .int .u8 0, .int .u8 0, .int .u8 0, .int .u8 0, .int .u8 0, .int .u8 0, .int .u8 0, .int .u8 0, .int .u8 0, .int .u8 0, .int .u8 0, .int .u8 0, .int .u8 0, .int .u8 0, .int .u8 0, .int .u8 0, .int .u8 0, .int .u8 0, .int .u8 0, .int .u8 0, .int .u8 0, .int .u8 0, .int .u8 0, .int .u8 0, .int .u8 0, .int .u8 0] 26)) W0.heap.size 26 .u8 (List.replicate 32 0) := Arr.new W0 26 .u8 (List.replicate 32 0)
      have G19 : w.heap.size < W0.heap.size := Block.lt X0
      go_simp
      refine hK _ _ ?_
      clear hK K
      refine wpAny_ready (rs := [0, 5]) (by kernel_rfl) (by simp) ?_
      refine AllReady.cons rfl (fun K hK => ?_) (AllReady.cons rfl (fun K hK => ?_) AllReady.nil)
      · refine step_load_row (by rfl) _ _ rfl w.heap.size 0 (dcells x) rfl (Arr.range X19) arr32A rfl (by unfold dcells; rw [List.length_map, Hxl.out]; kernel_rfl) ?_
        go_simp
        refine hK _ _ ?_
        clear hK K
        refine wpAny_ready (rs := [5]) (by kernel_rfl) (by simp) ?_
        refine AllReady.cons rfl (fun K hK => ?_) AllReady.nil
        go_simp
        go_at_call 29
        refine (g1.out _ B19).mono ?_
        rintro e w21 ⟨v21, rfl, own21, hb21⟩
        have B21 := B19.trans (hb21.mono B19.size)
        have X21 := Block.below X19 hb21 (Block.lt X19)
        have A21 := Block.below A19 hb21 (Block.lt A19)
        obtain ⟨P21, c21, rfl, p21, m21, H21⟩ := own21.opened
        refine hK _ _ ?_
        clear hK K
        refine wpAny_ready (rs := [6]) (by kernel_rfl) (by simp) ?_
        refine AllReady.cons rfl (fun K hK => ?_) AllReady.nil
        go_simp
        go_at_call 35
        refine (GL.out _ _ _ B21 p21 m21 H21).mono ?_
        rintro e w22 ⟨rfl, hb22⟩
        have B22 := B21.trans (hb22.mono B21.size)
        have X22 := Block.below X21 hb22 (Block.lt X21)
        have A22 := Block.below A21 hb22 (Block.lt A21)
        refine hK _ _ ?_
        clear hK K
        refine wpAny_take (i := 7) (v := .tuple #[arrV .u8 Y, .int .i64 E]) rfl (by kernel_rfl) (by kernel_rfl) (by kernel_rfl) (fun _ _ _ h => h) (Or.inl ⟨by rfl, fun W => by go_simp⟩) ?_
        refine wpAny_take (i := 8) (v := arrV .u8 Y) rfl (by kernel_rfl) (by kernel_rfl) (by kernel_rfl) (fun _ _ _ h => h) (Or.inl ⟨by rfl, fun W => by go_simp⟩) ?_
        refine wpAny_take (i := 9) (v := .int .i64 E) rfl (by kernel_rfl) (by kernel_rfl) (by kernel_rfl) (fun _ _ _ h => h) (Or.inl ⟨by rfl, fun W => by go_simp⟩) ?_
        go_simp
        refine wpAny_ready (rs := [11]) (by kernel_rfl) (by simp) ?_
        refine AllReady.cons rfl (fun K hK => ?_) AllReady.nil
        refine step_store_arr rfl _ _ _ rfl A22 rfl rfl (by rw [hY.out]; rfl) (by rw [hY.out]; kernel_rfl) ?_
        intro w9 r9 g9
        have hgl := G19
        have x9 := Arr.grown X22 g9 (by intro e; injection e with e; omega)
        have B9 := B22.trans (below_of_grown g9 B22.size (fun b hb => by injection hb with hb; omega))
        refine hK _ _ ?_
        clear hK K
        refine wpAny_ready (rs := [12]) (by kernel_rfl) (by simp) ?_
        refine AllReady.cons rfl (fun K hK => ?_) AllReady.nil
        go_simp
        refine hK _ _ ?_
        clear hK K
        refine wpAny_done (by kernel_rfl) ?_ _
        go_wp2_with fail
        go_meet
        exact ⟨_, rfl, rfl, hgl, r9, x9, B9⟩
      · go_simp
        go_at_call 29
        refine (g1.out _ B19).mono ?_
        rintro e w23 ⟨v23, rfl, own23, hb23⟩
        have B23 := B19.trans (hb23.mono B19.size)
        have X23 := Block.below X19 hb23 (Block.lt X19)
        have A23 := Block.below A19 hb23 (Block.lt A19)
        obtain ⟨P23, c23, rfl, p23, m23, H23⟩ := own23.opened
        refine hK _ _ ?_
        clear hK K
        refine wpAny_ready (rs := [0]) (by kernel_rfl) (by simp) ?_
        refine AllReady.cons rfl (fun K hK => ?_) AllReady.nil
        refine step_load_row (by rfl) _ _ rfl w.heap.size 0 (dcells x) rfl (Arr.range X23) arr32A rfl (by unfold dcells; rw [List.length_map, Hxl.out]; kernel_rfl) ?_
        go_simp
        refine hK _ _ ?_
        clear hK K
        refine wpAny_ready (rs := [6]) (by kernel_rfl) (by simp) ?_
        refine AllReady.cons rfl (fun K hK => ?_) AllReady.nil
        go_simp
        go_at_call 35
        refine (GL.out _ _ _ B23 p23 m23 H23).mono ?_
        rintro e w25 ⟨rfl, hb25⟩
        have B25 := B23.trans (hb25.mono B23.size)
        have X25 := Block.below X23 hb25 (Block.lt X23)
        have A25 := Block.below A23 hb25 (Block.lt A23)
        refine hK _ _ ?_
        clear hK K
        refine wpAny_take (i := 7) (v := .tuple #[arrV .u8 Y, .int .i64 E]) rfl (by kernel_rfl) (by kernel_rfl) (by kernel_rfl) (fun _ _ _ h => h) (Or.inl ⟨by rfl, fun W => by go_simp⟩) ?_
        refine wpAny_take (i := 8) (v := arrV .u8 Y) rfl (by kernel_rfl) (by kernel_rfl) (by kernel_rfl) (fun _ _ _ h => h) (Or.inl ⟨by rfl, fun W => by go_simp⟩) ?_
        refine wpAny_take (i := 9) (v := .int .i64 E) rfl (by kernel_rfl) (by kernel_rfl) (by kernel_rfl) (fun _ _ _ h => h) (Or.inl ⟨by rfl, fun W => by go_simp⟩) ?_
        go_simp
        refine wpAny_ready (rs := [11]) (by kernel_rfl) (by simp) ?_
        refine AllReady.cons rfl (fun K hK => ?_) AllReady.nil
        refine step_store_arr rfl _ _ _ rfl A25 rfl rfl (by rw [hY.out]; rfl) (by rw [hY.out]; kernel_rfl) ?_
        intro w9 r9 g9
        have hgl := G19
        have x9 := Arr.grown X25 g9 (by intro e; injection e with e; omega)
        have B9 := B25.trans (below_of_grown g9 B25.size (fun b hb => by injection hb with hb; omega))
        refine hK _ _ ?_
        clear hK K
        refine wpAny_ready (rs := [12]) (by kernel_rfl) (by simp) ?_
        refine AllReady.cons rfl (fun K hK => ?_) AllReady.nil
        go_simp
        refine hK _ _ ?_
        clear hK K
        refine wpAny_done (by kernel_rfl) ?_ _
        go_wp2_with fail
        go_meet
        exact ⟨_, rfl, rfl, hgl, r9, x9, B9⟩
  case rest =>
    obtain ⟨g, rfl, rfl, hg, r9, x9, B9⟩ := hcut
    have HL9 := hL.below B9
    rcases Hcase.out with ⟨hi, _, _⟩ | ⟨I, N, eI, eN, hIN, hcc⟩
    · omega
    obtain rfl : I = i := by omega
    obtain rfl : N = l.length := by omega
    rcases hcc with ⟨_, _, rfl⟩ | ⟨hw, eY, rfl, _⟩
    · clear GL g1 g2 g4 Hs Hcase eI eN
      go_wp2_with fail
      refine wp_region_quiet_below (by kernel_rfl) (by kernel_rfl) ?_
      repeat (go_big_quiet_step (fail))
      refine wpQuiet_nil ?_
      intro _ hw'
      obtain ⟨⟨dq, osq⟩, hw''⟩ := hw'
      have hbq := below_regrown wc dq osq
      subst hw''
      have HLq := HL9.below hbq
      have Bq := B9.trans (hbq.mono B9.size)
      go_wp2_with (go_at_call 25; refine (awake_any _ HLq).mono ?_; rintro e w6 ⟨rfl, hb6⟩)
      go_ret
      exact ⟨rfl, Bq.trans (hb6.mono Bq.size)⟩
    · have hYd : D32 Y := by rw [eY]; exact leadR_d32 _ _ _ _ hxd
      have hu2 := Lib.hid hud.1
      have e7 : ∀ W, (binOp .neq 26 (.agg (dcells Y).toArray) (arrV .u8 (rootL l))).run Tryd.prog W = .ok (.bool (!decide (Y = rootL l))) W := fun W => dig_neq2 Y (rootL l) hYd hud W
      have f7 : ∀ W x' y, (eqGuard .neq 26 x' y (.agg (dcells Y).toArray) (arrV .u8 (rootL l))).run Tryd.prog W = .ok () W := fun W x' y => run_eqGuard_agg W .neq 26 x' y _ _ (by kernel_rfl)
      have e8 : ∀ W, (binOp .eql 24 (.agg (dcells x).toArray) (.agg (dcells l[I]).toArray)).run Tryd.prog W = .ok (.bool (decide (x = l[I]))) W := fun W => arr_eq2 x l[I] hxd hq W
      have f8 : ∀ W x' y, (eqGuard .eql 24 x' y (.agg (dcells x).toArray) (.agg (dcells l[I]).toArray)).run Tryd.prog W = .ok () W := fun W x' y => run_eqGuard_agg W .eql 24 x' y _ _ (by kernel_rfl)
      have GC := Lib.hid (fun W (hB : Below w.heap.size w W) (he : Y = rootL l) (hn : x ≠ l[I]) => clash_yes l.length (some ⟨b, off, none⟩) l d1 B2 ws d2 I x W rfl HH.out.1 HH.out.2.1 (Hl.out.on hB) (by omega) hw HH.out.2.2.1 HH.out.2.2.2 (Hs.out.on hB) hxd hil (by rw [← eY]; exact he) (by rw [List.getD_eq_getElem?_getD, List.getElem?_eq_getElem hil]; exact hn))
      obtain ⟨t7, h7⟩ : ∃ t7 : Bool, (!decide (Y = rootL l)) = t7 := ⟨_, rfl⟩
      obtain ⟨t8, h8⟩ : ∃ t8 : Bool, decide (x = l[I]) = t8 := ⟨_, rfl⟩
      rw [h7] at e7
      rw [h8] at e8
      have H7 := Lib.hid h7
      have H8 := Lib.hid h8
      clear h7 h8 GL g1 Hcase eI eN eY hw hud hYd
      generalize rootL l = u2 at *
      generalize l[I] = q at *
      have B10 := below_draws B9 1
      have r10 := Arr.drewN r9 1
      have x10 := Arr.drewN x9 1
      go_wp2_with fail
      refine wp_region_held_drew (S := (fun W => Arr W g 26 .u8 Y ∧ Arr W w.heap.size 24 .u8 x ∧ Below w.heap.size w W)) (by kernel_rfl) ⟨r10, x10, B10⟩ (fun hS => ?_)
      refine wpAnyH_take (i := 0) (v := .int .i64 0) rfl (by kernel_rfl) (by kernel_rfl) (by kernel_rfl) (fun _ _ _ h => h) (Or.inl ⟨by rfl, fun W _ => by go_simp⟩) hS ?_
      ((try simp only [Act.put, List.setIfInBounds_toArray, List.set_cons_zero, List.set_cons_succ]); (try go_simp))
      refine wpAnyH_take (i := 1) (v := .bool false) rfl (by kernel_rfl) (by kernel_rfl) (by kernel_rfl) (fun _ _ _ h => h) (Or.inl ⟨by rfl, fun W _ => by go_simp⟩) hS ?_
      ((try simp only [Act.put, List.setIfInBounds_toArray, List.set_cons_zero, List.set_cons_succ]); (try go_simp))
      refine wpAnyH_take (i := 2) (v := .bool false) rfl (by kernel_rfl) (by kernel_rfl) (by kernel_rfl) (fun _ _ _ h => h) (Or.inl ⟨by rfl, fun W _ => by go_simp⟩) hS ?_
      ((try simp only [Act.put, List.setIfInBounds_toArray, List.set_cons_zero, List.set_cons_succ]); (try go_simp))
      refine wpAnyH_take (i := 3) (v := .agg (dcells Y).toArray) rfl (by kernel_rfl) (by kernel_rfl) (by kernel_rfl) (fun _ _ _ h => h) (yieldsIf_load_mid (by rfl) _ _ rfl g (0) rfl (dcells Y) _ (fun W hW => Arr.range hW.1) arr32D rfl (by unfold dcells; rw [List.length_map, hY.out]; kernel_rfl)) hS ?_
      ((try simp only [Act.put, List.setIfInBounds_toArray, List.set_cons_zero, List.set_cons_succ]); (try go_simp))
      refine wpAnyH_take (i := 4) (v := .slice (some ⟨b, off, none⟩) l.length d1) rfl (by kernel_rfl) (by kernel_rfl) (by kernel_rfl) (fun _ _ _ h => h) (Or.inl ⟨by rfl, fun W _ => by go_simp⟩) hS ?_
      ((try simp only [Act.put, List.setIfInBounds_toArray, List.set_cons_zero, List.set_cons_succ]); (try go_simp))
      refine wpAnyH_ready (rs := [5]) (by kernel_rfl) (by simp) ?_
      refine AllReadyH.cons rfl (fun K hK => ?_) AllReadyH.nil
      go_simp
      go_at_call 29
      refine (g2.out _ B10).mono ?_
      rintro e w11 ⟨v11, rfl, own11, hb11⟩
      have B11 := B10.trans (hb11.mono B10.size)
      have r11 := Block.below r10 hb11 (Block.lt r10)
      have x11 := Block.below x10 hb11 (Block.lt x10)
      obtain ⟨P11, c11, rfl, p11, m11, H11⟩ := own11.opened
      refine hK.out _ _ ⟨r11, x11, B11⟩ (fun hS => ?_)
      clear hK K
      ((try simp only [Act.put, List.setIfInBounds_toArray, List.set_cons_zero, List.set_cons_succ]); (try go_simp))
      refine wpAnyH_ready (rs := [6]) (by kernel_rfl) (by simp) ?_
      refine AllReadyH.cons rfl (fun K hK => ?_) AllReadyH.nil
      go_simp
      go_at_call 28
      refine (g4.out _ _ _ B11 p11 m11 H11).mono ?_
      rintro e w12 ⟨rfl, hb12⟩
      have B12 := B11.trans (hb12.mono B11.size)
      have r12 := Block.below r11 hb12 (Block.lt r11)
      have x12 := Block.below x11 hb12 (Block.lt x11)
      refine hK.out _ _ ⟨r12, x12, B12⟩ (fun hS => ?_)
      clear hK K
      ((try simp only [Act.put, List.setIfInBounds_toArray, List.set_cons_zero, List.set_cons_succ]); (try go_simp))
      refine wpAnyH_take (i := 7) (v := .bool t7) rfl (by kernel_rfl) (by kernel_rfl) (by kernel_rfl) (fun _ _ _ h => h) (Or.inl ⟨by rfl, fun W _ => by go_simp⟩) hS ?_
      ((try simp only [Act.put, List.setIfInBounds_toArray, List.set_cons_zero, List.set_cons_succ]); (try go_simp))
      have HL12 := hL.below B12
      cases t7
      case true =>
        refine wpAnyH_take (i := 8) (v := .bool true) rfl (by kernel_rfl) (by kernel_rfl) (by kernel_rfl) (fun _ _ _ h => h) (Or.inl ⟨by rfl, fun W _ => by go_simp⟩) hS ?_
        ((try simp only [Act.put, List.setIfInBounds_toArray, List.set_cons_zero, List.set_cons_succ]); (try go_simp))
        refine wpAnyH_take (i := 9) (v := .bool true) rfl (by kernel_rfl) (by kernel_rfl) (by kernel_rfl) (fun _ _ _ h => h) (Or.inl ⟨by rfl, fun W _ => by go_simp⟩) hS ?_
        ((try simp only [Act.put, List.setIfInBounds_toArray, List.set_cons_zero, List.set_cons_succ]); (try go_simp))
        refine wpAnyH_take (i := 10) (v := undef) rfl (by kernel_rfl) (by kernel_rfl) (by kernel_rfl) (fun _ _ _ h => h) (Or.inr ⟨by rfl, rfl⟩) hS ?_
        ((try simp only [Act.put, List.setIfInBounds_toArray, List.set_cons_zero, List.set_cons_succ]); (try go_simp))
        refine wpAnyH_take (i := 11) (v := undef) rfl (by kernel_rfl) (by kernel_rfl) (by kernel_rfl) (fun _ _ _ h => h) (Or.inr ⟨by rfl, rfl⟩) hS ?_
        ((try simp only [Act.put, List.setIfInBounds_toArray, List.set_cons_zero, List.set_cons_succ]); (try go_simp))
        refine wpAnyH_take (i := 12) (v := undef) rfl (by kernel_rfl) (by kernel_rfl) (by kernel_rfl) (fun _ _ _ h => h) (Or.inr ⟨by rfl, rfl⟩) hS ?_
        ((try simp only [Act.put, List.setIfInBounds_toArray, List.set_cons_zero, List.set_cons_succ]); (try go_simp))
        refine wpAnyH_take (i := 13) (v := undef) rfl (by kernel_rfl) (by kernel_rfl) (by kernel_rfl) (fun _ _ _ h => h) (Or.inr ⟨by rfl, rfl⟩) hS ?_
        ((try simp only [Act.put, List.setIfInBounds_toArray, List.set_cons_zero, List.set_cons_succ]); (try go_simp))
        refine wpAnyH_take (i := 14) (v := undef) rfl (by kernel_rfl) (by kernel_rfl) (by kernel_rfl) (fun _ _ _ h => h) (Or.inr ⟨by rfl, rfl⟩) hS ?_
        ((try simp only [Act.put, List.setIfInBounds_toArray, List.set_cons_zero, List.set_cons_succ]); (try go_simp))
        refine wpAnyH_take (i := 15) (v := undef) rfl (by kernel_rfl) (by kernel_rfl) (by kernel_rfl) (fun _ _ _ h => h) (Or.inr ⟨by rfl, rfl⟩) hS ?_
        ((try simp only [Act.put, List.setIfInBounds_toArray, List.set_cons_zero, List.set_cons_succ]); (try go_simp))
        refine wpAnyH_take (i := 16) (v := .bool true) rfl (by kernel_rfl) (by kernel_rfl) (by kernel_rfl) (fun _ _ _ h => h) (Or.inl ⟨by rfl, fun W _ => by go_simp⟩) hS ?_
        ((try simp only [Act.put, List.setIfInBounds_toArray, List.set_cons_zero, List.set_cons_succ]); (try go_simp))
        refine wpAnyH_done (by kernel_rfl) ?_ _
        go_wp2_with (go_at_call 25; refine (awake_any _ HL12).mono ?_; rintro e w13 ⟨rfl, hb13⟩)
        go_ret
        exact ⟨rfl, B12.trans (hb13.mono B12.size)⟩
      case false =>
        refine wpAnyH_take (i := 8) (v := .bool false) rfl (by kernel_rfl) (by kernel_rfl) (by kernel_rfl) (fun _ _ _ h => h) (Or.inl ⟨by rfl, fun W _ => by go_simp⟩) hS ?_
        ((try simp only [Act.put, List.setIfInBounds_toArray, List.set_cons_zero, List.set_cons_succ]); (try go_simp))
        refine wpAnyH_take (i := 9) (v := .bool false) rfl (by kernel_rfl) (by kernel_rfl) (by kernel_rfl) (fun _ _ _ h => h) (Or.inl ⟨by rfl, fun W _ => by go_simp⟩) hS ?_
        ((try simp only [Act.put, List.setIfInBounds_toArray, List.set_cons_zero, List.set_cons_succ]); (try go_simp))
        refine wpAnyH_take (i := 10) (v := .agg (dcells x).toArray) rfl (by kernel_rfl) (by kernel_rfl) (by kernel_rfl) (fun _ _ _ h => h) (yieldsIf_load_mid (by rfl) _ _ rfl w.heap.size (0) rfl (dcells x) _ (fun W hW => Arr.range hW.2.1) arr32A rfl (by unfold dcells; rw [List.length_map, Hxl.out]; kernel_rfl)) hS ?_
        ((try simp only [Act.put, List.setIfInBounds_toArray, List.set_cons_zero, List.set_cons_succ]); (try go_simp))
        refine wpAnyH_take (i := 11) (v := .slice (some ⟨b, off, none⟩) l.length d1) rfl (by kernel_rfl) (by kernel_rfl) (by kernel_rfl) (fun _ _ _ h => h) (Or.inl ⟨by rfl, fun W _ => by go_simp⟩) hS ?_
        ((try simp only [Act.put, List.setIfInBounds_toArray, List.set_cons_zero, List.set_cons_succ]); (try go_simp))
        refine wpAnyH_take (i := 12) (v := .int .i64 I) rfl (by kernel_rfl) (by kernel_rfl) (by kernel_rfl) (fun _ _ _ h => h) (Or.inl ⟨by rfl, fun W _ => by go_simp⟩) hS ?_
        ((try simp only [Act.put, List.setIfInBounds_toArray, List.set_cons_zero, List.set_cons_succ]); (try go_simp))
        refine wpAnyH_take (i := 13) (v := .pointer (some ⟨b, off + I * 32, none⟩)) rfl (by kernel_rfl) (by kernel_rfl) (by kernel_rfl) (fun _ _ _ h => h) (Or.inl ⟨by rfl, fun W _ => by go_simp <;> first | (intro h; omega) | (rw [if_pos hil])⟩) hS ?_
        ((try simp only [Act.put, List.setIfInBounds_toArray, List.set_cons_zero, List.set_cons_succ]); (try go_simp))
        refine wpAnyH_take (i := 14) (v := .agg (dcells q).toArray) rfl (by kernel_rfl) (by kernel_rfl) (by kernel_rfl) (fun _ _ _ h => h) (yieldsIf_load_mid (by rfl) _ _ rfl b (off + I * 32) rfl (dcells q) _ (fun W hW => hrg.out _ hW.2.2) arr32A rfl (by unfold dcells; rw [List.length_map, hql.out]; kernel_rfl)) hS ?_
        ((try simp only [Act.put, List.setIfInBounds_toArray, List.set_cons_zero, List.set_cons_succ]); (try go_simp))
        refine wpAnyH_take (i := 15) (v := .bool t8) rfl (by kernel_rfl) (by kernel_rfl) (by kernel_rfl) (fun _ _ _ h => h) (Or.inl ⟨by rfl, fun W _ => by go_simp⟩) hS ?_
        ((try simp only [Act.put, List.setIfInBounds_toArray, List.set_cons_zero, List.set_cons_succ]); (try go_simp))
        refine wpAnyH_take (i := 16) (v := .bool t8) rfl (by kernel_rfl) (by kernel_rfl) (by kernel_rfl) (fun _ _ _ h => h) (Or.inl ⟨by rfl, fun W _ => by go_simp⟩) hS ?_
        ((try simp only [Act.put, List.setIfInBounds_toArray, List.set_cons_zero, List.set_cons_succ]); (try go_simp))
        refine wpAnyH_done (by kernel_rfl) ?_ _
        cases t8
        case true =>
          go_wp2_with (go_at_call 25; refine (awake_any _ HL12).mono ?_; rintro e w13 ⟨rfl, hb13⟩)
          go_ret
          exact ⟨rfl, B12.trans (hb13.mono B12.size)⟩
        case false =>
          have GC := Lib.hid (GC.out _ B12 (of_decide_eq_true (by have := H7.out; simpa using this)) (of_decide_eq_false H8.out))
          go_wp2_with (first
            | (refine wpList_load_arr rfl _ _ rfl x12 rfl arr32A rfl (by rw [Hxl.out]; kernel_rfl) ?_)
            | (go_at_call 40; refine GC.out.mono ?_; rintro e w13 ⟨rfl, hb13⟩; have B13 := B12.trans (hb13.mono B12.size))
            | (go_at_call 25; refine (awake_any _ (hL.below B13)).mono ?_; rintro e w14 ⟨rfl, hb14⟩))
          go_ret
          exact ⟨rfl, B13.trans (hb14.mono B13.size)⟩

end Go.Proofs.YtdfgdchmeikigaaDoor.MerkleBinds
