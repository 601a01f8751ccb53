/-
  MerkleLeads: the walk: the root that any way of any leaf leads to, or the error, is the document's.
-/
import Derived.Test.YtdfgdchmeikigaaDoorMkN
import Derived.Deep.CutBlock
namespace Go.Proofs.YtdfgdchmeikigaaDoor.MerkleLeads
open Go.ChangeShapes Go.WideShapes Go.ChangeAt Go.RowKit Go.Proofs.YtdfgdchmeikigaaDoor.Kit Go.Proofs.YtdfgdchmeikigaaDoor.Sha Go.Proofs.YtdfgdchmeikigaaDoor.Mk

set_option maxRecDepth 100000 in
set_option maxHeartbeats 6400000 in
theorem walk (x : List Int) (i n : Int) (B : Option Addr) (l : List (List Int)) (d : Nat) (w : World) (hxl : x.length = 32) (hxo : Octets x) (hi : (Lit.int .i64 i).wf = true) (hn : (Lit.int .i64 n).wf = true) (hd : l.length ≤ d) (hm : d ≤ maxLen) (hs : HoldsD w w.heap.size B l) (hL : LaidS w) :
    Calls Tryd.prog 9 #[arrV .u8 x, .int .i64 i, .int .i64 n, .slice B l.length d] w fun e w' => e = .returned (.bool true) ∧ Below w.heap.size w w' := by
  have hib := bounds_i64 hi
  have hnb := bounds_i64 hn
  have bxB := below_new (w := w) (.cells (x.map (Value.int .u8)).toArray 24)
  unfold arrV
  by_cases h4 : (70 : Int) < l.length
  · have hd2 : decide ((70 : Int) < (l.length : Int)) = true := decide_eq_true h4
    unfold maxLen at hm
    have HL1 := hL.below bxB
    go_enter Tryd.func9, Tryd.ntmps9
    go_wp2_with (go_at_call 25; refine (awake_any _ HL1).mono ?_; rintro e w1 ⟨rfl, hb1⟩)
    go_ret
    exact ⟨rfl, bxB.trans (hb1.mono bxB.size)⟩
  have hd2 : decide ((70 : Int) < (l.length : Int)) = false := decide_eq_false h4
  have hxd : D32 x := ⟨hxl, hxo⟩
  have g1 := Lib.hid (fun W (hb : Below w.heap.size w W) => digests_any B l d W hd hm (hs.on hb) (by omega))
  obtain ⟨Y, E, hY, GL, hcase⟩ := lead_case x i n l w hxd hnb.2 hL
  have hY := Lib.hid hY
  have Hxl := Lib.hid hxl
  have GL := Lib.hid GL
  have Hcase := Lib.hid hcase
  have Hs := Lib.hid hs
  have X00 : Arr (w.alloc (.cells (x.map (Value.int .u8)).toArray 24)) w.heap.size 24 .u8 x := Arr.new w _ _ _
  have hz : ∀ W, (zeroValue 26).run Tryd.prog W = .ok (.agg #[.int .u8 0, .int .u8 0, .int .u8 0, .int .u8 0, .int .u8 0, .int .u8 0, .int .u8 0, .int .u8 0, .int .u8 0, .int .u8 0, .int .u8 0, .int .u8 0, .int .u8 0, .int .u8 0, .int .u8 0, .int .u8 0, .int .u8 0, .int .u8 0, .int .u8 0, .int .u8 0, .int .u8 0, .int .u8 0, .int .u8 0, .int .u8 0, .int .u8 0, .int .u8 0, .int .u8 0, .int .u8 0, .int .u8 0, .int .u8 0, .int .u8 0, .int .u8 0]) W := fun _ => by kernel_rfl
  clear hcase hs hxl hxo hi hn
  unfold maxLen at hm
  go_enter Tryd.func9, Tryd.ntmps9
  go_wp2_with fail
  go_cut [9, 10] from 9 to 23 (fun s9 s10 wx => ∃ g : Nat, s9 = .pointer (some ⟨g, 0, none⟩) ∧ s10 = .int .i64 E ∧ w.heap.size < g ∧ Arr wx g 26 .u8 Y ∧ Arr wx w.heap.size 24 .u8 x ∧ Below w.heap.size w wx)
  case first =>
    have B00 := below_draws bxB 1
    have X00 := Arr.drewN X00 1
    obtain ⟨W0, hW0⟩ : ∃ W0, (w.alloc (.cells (x.map (Value.int .u8)).toArray 24)).drew = W0 := ⟨_, rfl⟩
    have B0 : Below w.heap.size w W0 := hW0 ▸ B00
    have X0 : Arr W0 w.heap.size 24 .u8 x := hW0 ▸ X00
    clear B00 X00 bxB
    refine wp_region_any (by kernel_rfl) ?_
    change wpAny _ _ _ _ _ _ _ (World.drew _)
    rw [hW0]
    clear hW0
    refine wpAny_take (i := 1) (v := .int .i64 i) rfl (by kernel_rfl) (by kernel_rfl) (by kernel_rfl) (fun _ _ _ h => h) (Or.inl ⟨by rfl, fun W => by go_simp⟩) ?_
    refine wpAny_take (i := 2) (v := .int .i64 n) rfl (by kernel_rfl) (by kernel_rfl) (by kernel_rfl) (fun _ _ _ h => h) (Or.inl ⟨by rfl, fun W => by go_simp⟩) ?_
    refine wpAny_take (i := 3) (v := .slice B l.length d) rfl (by kernel_rfl) (by kernel_rfl) (by kernel_rfl) (fun _ _ _ h => h) (Or.inl ⟨by rfl, fun W => by go_simp⟩) ?_
    go_simp
    go_simp
    refine wpAny_ready (rs := [0, 4, 9]) (by kernel_rfl) (by simp) ?_
    refine AllReady.cons rfl (fun K hK => ?_) (AllReady.cons rfl (fun K hK => ?_) (AllReady.cons rfl (fun K hK => ?_) AllReady.nil))
    · refine step_load_row (by rfl) _ _ rfl w.heap.size 0 (dcells x) rfl (Arr.range X0) arr32A rfl (by unfold dcells; rw [List.length_map, Hxl.out]; kernel_rfl) ?_
      go_simp
      refine hK _ _ ?_
      clear hK K
      refine wpAny_ready (rs := [4, 9]) (by kernel_rfl) (by simp) ?_
      refine AllReady.cons rfl (fun K hK => ?_) (AllReady.cons rfl (fun K hK => ?_) AllReady.nil)
      · go_simp
        go_at_call 29
        refine (g1.out _ B0).mono ?_
        rintro e w2 ⟨v2, rfl, own2, hb2⟩
        have B2 := B0.trans (hb2.mono B0.size)
        have X2 := Block.below X0 hb2 (Block.lt X0)
        obtain ⟨P2, c2, rfl, p2, m2, H2⟩ := own2.opened
        refine hK _ _ ?_
        clear hK K
        refine wpAny_ready (rs := [5, 9]) (by kernel_rfl) (by simp) ?_
        refine AllReady.cons rfl (fun K hK => ?_) (AllReady.cons rfl (fun K hK => ?_) AllReady.nil)
        · go_simp
          go_at_call 35
          refine (GL.out _ _ _ B2 p2 m2 H2).mono ?_
          rintro e w3 ⟨rfl, hb3⟩
          have B3 := B2.trans (hb3.mono B2.size)
          have X3 := Block.below X2 hb3 (Block.lt X2)
          refine hK _ _ ?_
          clear hK K
          refine wpAny_take (i := 6) (v := .tuple #[arrV .u8 Y, .int .i64 E]) rfl (by kernel_rfl) (by kernel_rfl) (by kernel_rfl) (fun _ _ _ h => h) (Or.inl ⟨by rfl, fun W => by go_simp⟩) ?_
          refine wpAny_take (i := 7) (v := arrV .u8 Y) rfl (by kernel_rfl) (by kernel_rfl) (by kernel_rfl) (fun _ _ _ h => h) (Or.inl ⟨by rfl, fun W => by go_simp⟩) ?_
          refine wpAny_take (i := 8) (v := .int .i64 E) rfl (by kernel_rfl) (by kernel_rfl) (by kernel_rfl) (fun _ _ _ h => h) (Or.inl ⟨by rfl, fun W => by go_simp⟩) ?_
          go_simp
          refine wpAny_ready (rs := [9]) (by kernel_rfl) (by simp) ?_
          refine AllReady.cons rfl (fun K hK => ?_) AllReady.nil
          have B4 := B3.alloc B3.size (.cells #[.int .u8 0, .int .u8 0, .int .u8 0, .int .u8 0, .int .u8 0, .int .u8 0, .int .u8 0, .int .u8 0, .int .u8 0, .int .u8 0, .int .u8 0, .int .u8 0, .int .u8 0, .int .u8 0, .int .u8 0, .int .u8 0, .int .u8 0, .int .u8 0, .int .u8 0, .int .u8 0, .int .u8 0, .int .u8 0, .int .u8 0, .int .u8 0, .int .u8 0, .int .u8 0, .int .u8 0, .int .u8 0, .int .u8 0, .int .u8 0, .int .u8 0, .int .u8 0] 26)
          have X4 := Arr.alloc X3 (.cells #[.int .u8 0, .int .u8 0, .int .u8 0, .int .u8 0, .int .u8 0, .int .u8 0, .int .u8 0, .int .u8 0, .int .u8 0, .int .u8 0, .int .u8 0, .int .u8 0, .int .u8 0, .int .u8 0, .int .u8 0, .int .u8 0, .int .u8 0, .int .u8 0, .int .u8 0, .int .u8 0, .int .u8 0, .int .u8 0, .int .u8 0, .int .u8 0, .int .u8 0, .int .u8 0, .int .u8 0, .int .u8 0, .int .u8 0, .int .u8 0, .int .u8 0, .int .u8 0] 26)
          have A4 : Arr (w3.alloc (.cells #[.int .u8 0, .int .u8 0, .int .u8 0, .int .u8 0, .int .u8 0, .int .u8 0, .int .u8 0, .int .u8 0, .int .u8 0, .int .u8 0, .int .u8 0, .int .u8 0, .int .u8 0, .int .u8 0, .int .u8 0, .int .u8 0, .int .u8 0, .int .u8 0, .int .u8 0, .int .u8 0, .int .u8 0, .int .u8 0, .int .u8 0, .int .u8 0, .int .u8 0, .int .u8 0, .int .u8 0, .int .u8 0, .int .u8 0, .int .u8 0, .int .u8 0, .int .u8 0] 26)) w3.heap.size 26 .u8 (List.replicate 32 0) := Arr.new w3 26 .u8 (List.replicate 32 0)
          have G4 : w.heap.size < w3.heap.size := Block.lt X3
          go_simp
          refine hK _ _ ?_
          clear hK K
          refine wpAny_ready (rs := [10]) (by kernel_rfl) (by simp) ?_
          refine AllReady.cons rfl (fun K hK => ?_) AllReady.nil
          refine step_store_arr rfl _ _ _ rfl A4 rfl rfl (by rw [hY.out]; rfl) (by rw [hY.out]; kernel_rfl) ?_
          intro w9 r9 g9
          have hgl := G4
          have x9 := Arr.grown X4 g9 (by intro e; injection e with e; omega)
          have B9 := B4.trans (below_of_grown g9 B4.size (fun b hb => by injection hb with hb; omega))
          refine hK _ _ ?_
          clear hK K
          refine wpAny_ready (rs := [11]) (by kernel_rfl) (by simp) ?_
          refine AllReady.cons rfl (fun K hK => ?_) AllReady.nil
          go_simp
          refine hK _ _ ?_
          clear hK K
          refine wpAny_done (by kernel_rfl) ?_ _
          go_wp2_with fail
          go_meet
          exact ⟨_, rfl, rfl, hgl, r9, x9, B9⟩
        · have B5 := B2.alloc B2.size (.cells #[.int .u8 0, .int .u8 0, .int .u8 0, .int .u8 0, .int .u8 0, .int .u8 0, .int .u8 0, .int .u8 0, .int .u8 0, .int .u8 0, .int .u8 0, .int .u8 0, .int .u8 0, .int .u8 0, .int .u8 0, .int .u8 0, .int .u8 0, .int .u8 0, .int .u8 0, .int .u8 0, .int .u8 0, .int .u8 0, .int .u8 0, .int .u8 0, .int .u8 0, .int .u8 0, .int .u8 0, .int .u8 0, .int .u8 0, .int .u8 0, .int .u8 0, .int .u8 0] 26)
          have X5 := Arr.alloc X2 (.cells #[.int .u8 0, .int .u8 0, .int .u8 0, .int .u8 0, .int .u8 0, .int .u8 0, .int .u8 0, .int .u8 0, .int .u8 0, .int .u8 0, .int .u8 0, .int .u8 0, .int .u8 0, .int .u8 0, .int .u8 0, .int .u8 0, .int .u8 0, .int .u8 0, .int .u8 0, .int .u8 0, .int .u8 0, .int .u8 0, .int .u8 0, .int .u8 0, .int .u8 0, .int .u8 0, .int .u8 0, .int .u8 0, .int .u8 0, .int .u8 0, .int .u8 0, .int .u8 0] 26)
          have A5 : Arr (w2.alloc (.cells #[.int .u8 0, .int .u8 0, .int .u8 0, .int .u8 0, .int .u8 0, .int .u8 0, .int .u8 0, .int .u8 0, .int .u8 0, .int .u8 0, .int .u8 0, .int .u8 0, .int .u8 0, .int .u8 0, .int .u8 0, .int .u8 0, .int .u8 0, .int .u8 0, .int .u8 0, .int .u8 0, .int .u8 0, .int .u8 0, .int .u8 0, .int .u8 0, .int .u8 0, .int .u8 0, .int .u8 0, .int .u8 0, .int .u8 0, .int .u8 0, .int .u8 0, .int .u8 0] 26)) w2.heap.size 26 .u8 (List.replicate 32 0) := Arr.new w2 26 .u8 (List.replicate 32 0)
          have G5 : w.heap.size < w2.heap.size := Block.lt X2
          have H5 := H2.on (below_new (w := w2) (.cells #[.int .u8 0, .int .u8 0, .int .u8 0, .int .u8 0, .int .u8 0, .int .u8 0, .int .u8 0, .int .u8 0, .int .u8 0, .int .u8 0, .int .u8 0, .int .u8 0, .int .u8 0, .int .u8 0, .int .u8 0, .int .u8 0, .int .u8 0, .int .u8 0, .int .u8 0, .int .u8 0, .int .u8 0, .int .u8 0, .int .u8 0, .int .u8 0, .int .u8 0, .int .u8 0, .int .u8 0, .int .u8 0, .int .u8 0, .int .u8 0, .int .u8 0, .int .u8 0] 26))
          go_simp
          refine hK _ _ ?_
          clear hK K
          refine wpAny_ready (rs := [5]) (by kernel_rfl) (by simp) ?_
          refine AllReady.cons rfl (fun K hK => ?_) AllReady.nil
          go_simp
          go_at_call 35
          refine (GL.out _ _ _ B5 p2 m2 H5).mono ?_
          rintro e w6 ⟨rfl, hb6⟩
          have B6 := B5.trans (hb6.mono B5.size)
          have X6 := Block.below X5 hb6 (Block.lt X5)
          have A6 := Block.below A5 hb6 (Block.lt A5)
          refine hK _ _ ?_
          clear hK K
          refine wpAny_take (i := 6) (v := .tuple #[arrV .u8 Y, .int .i64 E]) rfl (by kernel_rfl) (by kernel_rfl) (by kernel_rfl) (fun _ _ _ h => h) (Or.inl ⟨by rfl, fun W => by go_simp⟩) ?_
          refine wpAny_take (i := 7) (v := arrV .u8 Y) rfl (by kernel_rfl) (by kernel_rfl) (by kernel_rfl) (fun _ _ _ h => h) (Or.inl ⟨by rfl, fun W => by go_simp⟩) ?_
          refine wpAny_take (i := 8) (v := .int .i64 E) rfl (by kernel_rfl) (by kernel_rfl) (by kernel_rfl) (fun _ _ _ h => h) (Or.inl ⟨by rfl, fun W => by go_simp⟩) ?_
          go_simp
          refine wpAny_ready (rs := [10]) (by kernel_rfl) (by simp) ?_
          refine AllReady.cons rfl (fun K hK => ?_) AllReady.nil
          refine step_store_arr rfl _ _ _ rfl A6 rfl rfl (by rw [hY.out]; rfl) (by rw [hY.out]; kernel_rfl) ?_
          intro w9 r9 g9
          have hgl := G5
          have x9 := Arr.grown X6 g9 (by intro e; injection e with e; omega)
          have B9 := B6.trans (below_of_grown g9 B6.size (fun b hb => by injection hb with hb; omega))
          refine hK _ _ ?_
          clear hK K
          refine wpAny_ready (rs := [11]) (by kernel_rfl) (by simp) ?_
          refine AllReady.cons rfl (fun K hK => ?_) AllReady.nil
          go_simp
          refine hK _ _ ?_
          clear hK K
          refine wpAny_done (by kernel_rfl) ?_ _
          go_wp2_with fail
          go_meet
          exact ⟨_, rfl, rfl, hgl, r9, x9, B9⟩
      · have B7 := B0.alloc B0.size (.cells #[.int .u8 0, .int .u8 0, .int .u8 0, .int .u8 0, .int .u8 0, .int .u8 0, .int .u8 0, .int .u8 0, .int .u8 0, .int .u8 0, .int .u8 0, .int .u8 0, .int .u8 0, .int .u8 0, .int .u8 0, .int .u8 0, .int .u8 0, .int .u8 0, .int .u8 0, .int .u8 0, .int .u8 0, .int .u8 0, .int .u8 0, .int .u8 0, .int .u8 0, .int .u8 0, .int .u8 0, .int .u8 0, .int .u8 0, .int .u8 0, .int .u8 0, .int .u8 0] 26)
        have X7 := Arr.alloc X0 (.cells #[.int .u8 0, .int .u8 0, .int .u8 0, .int .u8 0, .int .u8 0, .int .u8 0, .int .u8 0, .int .u8 0, .int .u8 0, .int .u8 0, .int .u8 0, .int .u8 0, .int .u8 0, .int .u8 0, .int .u8 0, .int .u8 0, .int .u8 0, .int .u8 0, .int .u8 0, .int .u8 0, .int .u8 0, .int .u8 0, .int .u8 0, .int .u8 0, .int .u8 0, .int .u8 0, .int .u8 0, .int .u8 0, .int .u8 0, .int .u8 0, .int .u8 0, .int .u8 0] 26)
        have A7 : Arr (W0.alloc (.cells #[.int .u8 0, .int .u8 0, .int .u8 0, .int .u8 0, .int .u8 0, .int .u8 0, .int .u8 0, .int .u8 0, .int .u8 0, .int .u8 0, .int .u8 0, .int .u8 0, .int .u8 0, .int .u8 0, .int .u8 0, .int .u8 0, .int .u8 0, .int .u8 0, .int .u8 0, .int .u8 0, .int .u8 0, .int .u8 0, .int .u8 0, .int .u8 0, .int .u8 0, .int .u8 0, .int .u8 0, .int .u8 0, .int .u8 0, .int .u8 0, .int .u8 0, .int .u8 0] 26)) W0.heap.size 26 .u8 (List.replicate 32 0) := Arr.new W0 26 .u8 (List.replicate 32 0)
        have G7 : w.heap.size < W0.heap.size := Block.lt X0
        go_simp
        refine hK _ _ ?_
        clear hK K
        refine wpAny_ready (rs := [4]) (by kernel_rfl) (by simp) ?_
        refine AllReady.cons rfl (fun K hK => ?_) AllReady.nil
        go_simp
        go_at_call 29
        refine (g1.out _ B7).mono ?_
        rintro e w8 ⟨v8, rfl, own8, hb8⟩
        have B8 := B7.trans (hb8.mono B7.size)
        have X8 := Block.below X7 hb8 (Block.lt X7)
        have A8 := Block.below A7 hb8 (Block.lt A7)
        obtain ⟨P8, c8, rfl, p8, m8, H8⟩ := own8.opened
        refine hK _ _ ?_
        clear hK K
        refine wpAny_ready (rs := [5]) (by kernel_rfl) (by simp) ?_
        refine AllReady.cons rfl (fun K hK => ?_) AllReady.nil
        go_simp
        go_at_call 35
        refine (GL.out _ _ _ B8 p8 m8 H8).mono ?_
        rintro e w9 ⟨rfl, hb9⟩
        have B9 := B8.trans (hb9.mono B8.size)
        have X9 := Block.below X8 hb9 (Block.lt X8)
        have A9 := Block.below A8 hb9 (Block.lt A8)
        refine hK _ _ ?_
        clear hK K
        refine wpAny_take (i := 6) (v := .tuple #[arrV .u8 Y, .int .i64 E]) rfl (by kernel_rfl) (by kernel_rfl) (by kernel_rfl) (fun _ _ _ h => h) (Or.inl ⟨by rfl, fun W => by go_simp⟩) ?_
        refine wpAny_take (i := 7) (v := arrV .u8 Y) rfl (by kernel_rfl) (by kernel_rfl) (by kernel_rfl) (fun _ _ _ h => h) (Or.inl ⟨by rfl, fun W => by go_simp⟩) ?_
        refine wpAny_take (i := 8) (v := .int .i64 E) rfl (by kernel_rfl) (by kernel_rfl) (by kernel_rfl) (fun _ _ _ h => h) (Or.inl ⟨by rfl, fun W => by go_simp⟩) ?_
        go_simp
        refine wpAny_ready (rs := [10]) (by kernel_rfl) (by simp) ?_
        refine AllReady.cons rfl (fun K hK => ?_) AllReady.nil
        refine step_store_arr rfl _ _ _ rfl A9 rfl rfl (by rw [hY.out]; rfl) (by rw [hY.out]; kernel_rfl) ?_
        intro w9 r9 g9
        have hgl := G7
        have x9 := Arr.grown X9 g9 (by intro e; injection e with e; omega)
        have B9 := B9.trans (below_of_grown g9 B9.size (fun b hb => by injection hb with hb; omega))
        refine hK _ _ ?_
        clear hK K
        refine wpAny_ready (rs := [11]) (by kernel_rfl) (by simp) ?_
        refine AllReady.cons rfl (fun K hK => ?_) AllReady.nil
        go_simp
        refine hK _ _ ?_
        clear hK K
        refine wpAny_done (by kernel_rfl) ?_ _
        go_wp2_with fail
        go_meet
        exact ⟨_, rfl, rfl, hgl, r9, x9, B9⟩
    · go_simp
      go_at_call 29
      refine (g1.out _ B0).mono ?_
      rintro e w10 ⟨v10, rfl, own10, hb10⟩
      have B10 := B0.trans (hb10.mono B0.size)
      have X10 := Block.below X0 hb10 (Block.lt X0)
      obtain ⟨P10, c10, rfl, p10, m10, H10⟩ := own10.opened
      refine hK _ _ ?_
      clear hK K
      refine wpAny_ready (rs := [0, 9]) (by kernel_rfl) (by simp) ?_
      refine AllReady.cons rfl (fun K hK => ?_) (AllReady.cons rfl (fun K hK => ?_) AllReady.nil)
      · refine step_load_row (by rfl) _ _ rfl w.heap.size 0 (dcells x) rfl (Arr.range X10) arr32A rfl (by unfold dcells; rw [List.length_map, Hxl.out]; kernel_rfl) ?_
        go_simp
        refine hK _ _ ?_
        clear hK K
        refine wpAny_ready (rs := [5, 9]) (by kernel_rfl) (by simp) ?_
        refine AllReady.cons rfl (fun K hK => ?_) (AllReady.cons rfl (fun K hK => ?_) AllReady.nil)
        · go_simp
          go_at_call 35
          refine (GL.out _ _ _ B10 p10 m10 H10).mono ?_
          rintro e w12 ⟨rfl, hb12⟩
          have B12 := B10.trans (hb12.mono B10.size)
          have X12 := Block.below X10 hb12 (Block.lt X10)
          refine hK _ _ ?_
          clear hK K
          refine wpAny_take (i := 6) (v := .tuple #[arrV .u8 Y, .int .i64 E]) rfl (by kernel_rfl) (by kernel_rfl) (by kernel_rfl) (fun _ _ _ h => h) (Or.inl ⟨by rfl, fun W => by go_simp⟩) ?_
          refine wpAny_take (i := 7) (v := arrV .u8 Y) rfl (by kernel_rfl) (by kernel_rfl) (by kernel_rfl) (fun _ _ _ h => h) (Or.inl ⟨by rfl, fun W => by go_simp⟩) ?_
          refine wpAny_take (i := 8) (v := .int .i64 E) rfl (by kernel_rfl) (by kernel_rfl) (by kernel_rfl) (fun _ _ _ h => h) (Or.inl ⟨by rfl, fun W => by go_simp⟩) ?_
          go_simp
          refine wpAny_ready (rs := [9]) (by kernel_rfl) (by simp) ?_
          refine AllReady.cons rfl (fun K hK => ?_) AllReady.nil
          have B13 := B12.alloc B12.size (.cells #[.int .u8 0, .int .u8 0, .int .u8 0, .int .u8 0, .int .u8 0, .int .u8 0, .int .u8 0, .int .u8 0, .int .u8 0, .int .u8 0, .int .u8 0, .int .u8 0, .int .u8 0, .int .u8 0, .int .u8 0, .int .u8 0, .int .u8 0, .int .u8 0, .int .u8 0, .int .u8 0, .int .u8 0, .int .u8 0, .int .u8 0, .int .u8 0, .int .u8 0, .int .u8 0, .int .u8 0, .int .u8 0, .int .u8 0, .int .u8 0, .int .u8 0, .int .u8 0] 26)
          have X13 := Arr.alloc X12 (.cells #[.int .u8 0, .int .u8 0, .int .u8 0, .int .u8 0, .int .u8 0, .int .u8 0, .int .u8 0, .int .u8 0, .int .u8 0, .int .u8 0, .int .u8 0, .int .u8 0, .int .u8 0, .int .u8 0, .int .u8 0, .int .u8 0, .int .u8 0, .int .u8 0, .int .u8 0, .int .u8 0, .int .u8 0, .int .u8 0, .int .u8 0, .int .u8 0, .int .u8 0, .int .u8 0, .int .u8 0, .int .u8 0, .int .u8 0, .int .u8 0, .int .u8 0, .int .u8 0] 26)
          have A13 : Arr (w12.alloc (.cells #[.int .u8 0, .int .u8 0, .int .u8 0, .int .u8 0, .int .u8 0, .int .u8 0, .int .u8 0, .int .u8 0, .int .u8 0, .int .u8 0, .int .u8 0, .int .u8 0, .int .u8 0, .int .u8 0, .int .u8 0, .int .u8 0, .int .u8 0, .int .u8 0, .int .u8 0, .int .u8 0, .int .u8 0, .int .u8 0, .int .u8 0, .int .u8 0, .int .u8 0, .int .u8 0, .int .u8 0, .int .u8 0, .int .u8 0, .int .u8 0, .int .u8 0, .int .u8 0] 26)) w12.heap.size 26 .u8 (List.replicate 32 0) := Arr.new w12 26 .u8 (List.replicate 32 0)
          have G13 : w.heap.size < w12.heap.size := Block.lt X12
          go_simp
          refine hK _ _ ?_
          clear hK K
          refine wpAny_ready (rs := [10]) (by kernel_rfl) (by simp) ?_
          refine AllReady.cons rfl (fun K hK => ?_) AllReady.nil
          refine step_store_arr rfl _ _ _ rfl A13 rfl rfl (by rw [hY.out]; rfl) (by rw [hY.out]; kernel_rfl) ?_
          intro w9 r9 g9
          have hgl := G13
          have x9 := Arr.grown X13 g9 (by intro e; injection e with e; omega)
          have B9 := B13.trans (below_of_grown g9 B13.size (fun b hb => by injection hb with hb; omega))
          refine hK _ _ ?_
          clear hK K
          refine wpAny_ready (rs := [11]) (by kernel_rfl) (by simp) ?_
          refine AllReady.cons rfl (fun K hK => ?_) AllReady.nil
          go_simp
          refine hK _ _ ?_
          clear hK K
          refine wpAny_done (by kernel_rfl) ?_ _
          go_wp2_with fail
          go_meet
          exact ⟨_, rfl, rfl, hgl, r9, x9, B9⟩
        · have B14 := B10.alloc B10.size (.cells #[.int .u8 0, .int .u8 0, .int .u8 0, .int .u8 0, .int .u8 0, .int .u8 0, .int .u8 0, .int .u8 0, .int .u8 0, .int .u8 0, .int .u8 0, .int .u8 0, .int .u8 0, .int .u8 0, .int .u8 0, .int .u8 0, .int .u8 0, .int .u8 0, .int .u8 0, .int .u8 0, .int .u8 0, .int .u8 0, .int .u8 0, .int .u8 0, .int .u8 0, .int .u8 0, .int .u8 0, .int .u8 0, .int .u8 0, .int .u8 0, .int .u8 0, .int .u8 0] 26)
          have X14 := Arr.alloc X10 (.cells #[.int .u8 0, .int .u8 0, .int .u8 0, .int .u8 0, .int .u8 0, .int .u8 0, .int .u8 0, .int .u8 0, .int .u8 0, .int .u8 0, .int .u8 0, .int .u8 0, .int .u8 0, .int .u8 0, .int .u8 0, .int .u8 0, .int .u8 0, .int .u8 0, .int .u8 0, .int .u8 0, .int .u8 0, .int .u8 0, .int .u8 0, .int .u8 0, .int .u8 0, .int .u8 0, .int .u8 0, .int .u8 0, .int .u8 0, .int .u8 0, .int .u8 0, .int .u8 0] 26)
          have A14 : Arr (w10.alloc (.cells #[.int .u8 0, .int .u8 0, .int .u8 0, .int .u8 0, .int .u8 0, .int .u8 0, .int .u8 0, .int .u8 0, .int .u8 0, .int .u8 0, .int .u8 0, .int .u8 0, .int .u8 0, .int .u8 0, .int .u8 0, .int .u8 0, .int .u8 0, .int .u8 0, .int .u8 0, .int .u8 0, .int .u8 0, .int .u8 0, .int .u8 0, .int .u8 0, .int .u8 0, .int .u8 0, .int .u8 0, .int .u8 0, .int .u8 0, .int .u8 0, .int .u8 0, .int .u8 0] 26)) w10.heap.size 26 .u8 (List.replicate 32 0) := Arr.new w10 26 .u8 (List.replicate 32 0)
          have G14 : w.heap.size < w10.heap.size := Block.lt X10
          have H14 := H10.on (below_new (w := w10) (.cells #[.int .u8 0, .int .u8 0, .int .u8 0, .int .u8 0, .int .u8 0, .int .u8 0, .int .u8 0, .int .u8 0, .int .u8 0, .int .u8 0, .int .u8 0, .int .u8 0, .int .u8 0, .int .u8 0, .int .u8 0, .int .u8 0, .int .u8 0, .int .u8 0, .int .u8 0, .int .u8 0, .int .u8 0, .int .u8 0, .int .u8 0, .int .u8 0, .int .u8 0, .int .u8 0, .int .u8 0, .int .u8 0, .int .u8 0, .int .u8 0, .int .u8 0, .int .u8 0] 26))
          go_simp
          refine hK _ _ ?_
          clear hK K
          refine wpAny_ready (rs := [5]) (by kernel_rfl) (by simp) ?_
          refine AllReady.cons rfl (fun K hK => ?_) AllReady.nil
          go_simp
          go_at_call 35
          refine (GL.out _ _ _ B14 p10 m10 H14).mono ?_
          rintro e w15 ⟨rfl, hb15⟩
          have B15 := B14.trans (hb15.mono B14.size)
          have X15 := Block.below X14 hb15 (Block.lt X14)
          have A15 := Block.below A14 hb15 (Block.lt A14)
          refine hK _ _ ?_
          clear hK K
          refine wpAny_take (i := 6) (v := .tuple #[arrV .u8 Y, .int .i64 E]) rfl (by kernel_rfl) (by kernel_rfl) (by kernel_rfl) (fun _ _ _ h => h) (Or.inl ⟨by rfl, fun W => by go_simp⟩) ?_
          refine wpAny_take (i := 7) (v := arrV .u8 Y) rfl (by kernel_rfl) (by kernel_rfl) (by kernel_rfl) (fun _ _ _ h => h) (Or.inl ⟨by rfl, fun W => by go_simp⟩) ?_
          refine wpAny_take (i := 8) (v := .int .i64 E) rfl (by kernel_rfl) (by kernel_rfl) (by kernel_rfl) (fun _ _ _ h => h) (Or.inl ⟨by rfl, fun W => by go_simp⟩) ?_
          go_simp
          refine wpAny_ready (rs := [10]) (by kernel_rfl) (by simp) ?_
          refine AllReady.cons rfl (fun K hK => ?_) AllReady.nil
          refine step_store_arr rfl _ _ _ rfl A15 rfl rfl (by rw [hY.out]; rfl) (by rw [hY.out]; kernel_rfl) ?_
          intro w9 r9 g9
          have hgl := G14
          have x9 := Arr.grown X15 g9 (by intro e; injection e with e; omega)
          have B9 := B15.trans (below_of_grown g9 B15.size (fun b hb => by injection hb with hb; omega))
          refine hK _ _ ?_
          clear hK K
          refine wpAny_ready (rs := [11]) (by kernel_rfl) (by simp) ?_
          refine AllReady.cons rfl (fun K hK => ?_) AllReady.nil
          go_simp
          refine hK _ _ ?_
          clear hK K
          refine wpAny_done (by kernel_rfl) ?_ _
          go_wp2_with fail
          go_meet
          exact ⟨_, rfl, rfl, hgl, r9, x9, B9⟩
      · have B16 := B10.alloc B10.size (.cells #[.int .u8 0, .int .u8 0, .int .u8 0, .int .u8 0, .int .u8 0, .int .u8 0, .int .u8 0, .int .u8 0, .int .u8 0, .int .u8 0, .int .u8 0, .int .u8 0, .int .u8 0, .int .u8 0, .int .u8 0, .int .u8 0, .int .u8 0, .int .u8 0, .int .u8 0, .int .u8 0, .int .u8 0, .int .u8 0, .int .u8 0, .int .u8 0, .int .u8 0, .int .u8 0, .int .u8 0, .int .u8 0, .int .u8 0, .int .u8 0, .int .u8 0, .int .u8 0] 26)
        have X16 := Arr.alloc X10 (.cells #[.int .u8 0, .int .u8 0, .int .u8 0, .int .u8 0, .int .u8 0, .int .u8 0, .int .u8 0, .int .u8 0, .int .u8 0, .int .u8 0, .int .u8 0, .int .u8 0, .int .u8 0, .int .u8 0, .int .u8 0, .int .u8 0, .int .u8 0, .int .u8 0, .int .u8 0, .int .u8 0, .int .u8 0, .int .u8 0, .int .u8 0, .int .u8 0, .int .u8 0, .int .u8 0, .int .u8 0, .int .u8 0, .int .u8 0, .int .u8 0, .int .u8 0, .int .u8 0] 26)
        have A16 : Arr (w10.alloc (.cells #[.int .u8 0, .int .u8 0, .int .u8 0, .int .u8 0, .int .u8 0, .int .u8 0, .int .u8 0, .int .u8 0, .int .u8 0, .int .u8 0, .int .u8 0, .int .u8 0, .int .u8 0, .int .u8 0, .int .u8 0, .int .u8 0, .int .u8 0, .int .u8 0, .int .u8 0, .int .u8 0, .int .u8 0, .int .u8 0, .int .u8 0, .int .u8 0, .int .u8 0, .int .u8 0, .int .u8 0, .int .u8 0, .int .u8 0, .int .u8 0, .int .u8 0, .int .u8 0] 26)) w10.heap.size 26 .u8 (List.replicate 32 0) := Arr.new w10 26 .u8 (List.replicate 32 0)
        have G16 : w.heap.size < w10.heap.size := Block.lt X10
        have H16 := H10.on (below_new (w := w10) (.cells #[.int .u8 0, .int .u8 0, .int .u8 0, .int .u8 0, .int .u8 0, .int .u8 0, .int .u8 0, .int .u8 0, .int .u8 0, .int .u8 0, .int .u8 0, .int .u8 0, .int .u8 0, .int .u8 0, .int .u8 0, .int .u8 0, .int .u8 0, .int .u8 0, .int .u8 0, .int .u8 0, .int .u8 0, .int .u8 0, .int .u8 0, .int .u8 0, .int .u8 0, .int .u8 0, .int .u8 0, .int .u8 0, .int .u8 0, .int .u8 0, .int .u8 0, .int .u8 0] 26))
        go_simp
        refine hK _ _ ?_
        clear hK K
        refine wpAny_ready (rs := [0]) (by kernel_rfl) (by simp) ?_
        refine AllReady.cons rfl (fun K hK => ?_) AllReady.nil
        refine step_load_row (by rfl) _ _ rfl w.heap.size 0 (dcells x) rfl (Arr.range X16) arr32A rfl (by unfold dcells; rw [List.length_map, Hxl.out]; kernel_rfl) ?_
        go_simp
        refine hK _ _ ?_
        clear hK K
        refine wpAny_ready (rs := [5]) (by kernel_rfl) (by simp) ?_
        refine AllReady.cons rfl (fun K hK => ?_) AllReady.nil
        go_simp
        go_at_call 35
        refine (GL.out _ _ _ B16 p10 m10 H16).mono ?_
        rintro e w18 ⟨rfl, hb18⟩
        have B18 := B16.trans (hb18.mono B16.size)
        have X18 := Block.below X16 hb18 (Block.lt X16)
        have A18 := Block.below A16 hb18 (Block.lt A16)
        refine hK _ _ ?_
        clear hK K
        refine wpAny_take (i := 6) (v := .tuple #[arrV .u8 Y, .int .i64 E]) rfl (by kernel_rfl) (by kernel_rfl) (by kernel_rfl) (fun _ _ _ h => h) (Or.inl ⟨by rfl, fun W => by go_simp⟩) ?_
        refine wpAny_take (i := 7) (v := arrV .u8 Y) rfl (by kernel_rfl) (by kernel_rfl) (by kernel_rfl) (fun _ _ _ h => h) (Or.inl ⟨by rfl, fun W => by go_simp⟩) ?_
        refine wpAny_take (i := 8) (v := .int .i64 E) rfl (by kernel_rfl) (by kernel_rfl) (by kernel_rfl) (fun _ _ _ h => h) (Or.inl ⟨by rfl, fun W => by go_simp⟩) ?_
        go_simp
        refine wpAny_ready (rs := [10]) (by kernel_rfl) (by simp) ?_
        refine AllReady.cons rfl (fun K hK => ?_) AllReady.nil
        refine step_store_arr rfl _ _ _ rfl A18 rfl rfl (by rw [hY.out]; rfl) (by rw [hY.out]; kernel_rfl) ?_
        intro w9 r9 g9
        have hgl := G16
        have x9 := Arr.grown X18 g9 (by intro e; injection e with e; omega)
        have B9 := B18.trans (below_of_grown g9 B18.size (fun b hb => by injection hb with hb; omega))
        refine hK _ _ ?_
        clear hK K
        refine wpAny_ready (rs := [11]) (by kernel_rfl) (by simp) ?_
        refine AllReady.cons rfl (fun K hK => ?_) AllReady.nil
        go_simp
        refine hK _ _ ?_
        clear hK K
        refine wpAny_done (by kernel_rfl) ?_ _
        go_wp2_with fail
        go_meet
        exact ⟨_, rfl, rfl, hgl, r9, x9, B9⟩
    · have B19 := B0.alloc B0.size (.cells #[.int .u8 0, .int .u8 0, .int .u8 0, .int .u8 0, .int .u8 0, .int .u8 0, .int .u8 0, .int .u8 0, .int .u8 0, .int .u8 0, .int .u8 0, .int .u8 0, .int .u8 0, .int .u8 0, .int .u8 0, .int .u8 0, .int .u8 0, .int .u8 0, .int .u8 0, .int .u8 0, .int .u8 0, .int .u8 0, .int .u8 0, .int .u8 0, .int .u8 0, .int .u8 0, .int .u8 0, .int .u8 0, .int .u8 0, .int .u8 0, .int .u8 0, .int .u8 0] 26)
      have X19 := Arr.alloc X0 (.cells #[.int .u8 0, .int .u8 0, .int .u8 0, .int .u8 0, .int .u8 0, .int .u8 0, .int .u8 0, .int .u8 0, .int .u8 0, .int .u8 0, .int .u8 0, .int .u8 0, .int .u8 0, .int .u8 0, .int .u8 0, .int .u8 0, .int .u8 0, .int .u8 0, .int .u8 0, .int .u8 0, .int .u8 0, .int .u8 0, .int .u8 0, .int .u8 0, .int .u8 0, .int .u8 0, .int .u8 0, .int .u8 0, .int .u8 0, .int .u8 0, .int .u8 0, .int .u8 0] 26)
      have A19 : Arr (W0.alloc (.cells #[.int .u8 0, .int .u8 0, .int .u8 0, .int .u8 0, .int .u8 0, .int .u8 0, .int .u8 0, .int .u8 0, .int .u8 0, .int .u8 0, .int .u8 0, .int .u8 0, .int .u8 0, .int .u8 0, .int .u8 0, .int .u8 0, .int .u8 0, .int .u8 0, .int .u8 0, .int .u8 0, .int .u8 0, .int .u8 0, .int .u8 0, .int .u8 0, .int .u8 0, .int .u8 0, .int .u8 0, .int .u8 0, .int .u8 0, .int .u8 0, .int .u8 0, .int .u8 0] 26)) W0.heap.size 26 .u8 (List.replicate 32 0) := Arr.new W0 26 .u8 (List.replicate 32 0)
      have G19 : w.heap.size < W0.heap.size := Block.lt X0
      go_simp
      refine hK _ _ ?_
      clear hK K
      refine wpAny_ready (rs := [0, 4]) (by kernel_rfl) (by simp) ?_
      refine AllReady.cons rfl (fun K hK => ?_) (AllReady.cons rfl (fun K hK => ?_) AllReady.nil)
      · refine step_load_row (by rfl) _ _ rfl w.heap.size 0 (dcells x) rfl (Arr.range X19) arr32A rfl (by unfold dcells; rw [List.length_map, Hxl.out]; kernel_rfl) ?_
        go_simp
        refine hK _ _ ?_
        clear hK K
        refine wpAny_ready (rs := [4]) (by kernel_rfl) (by simp) ?_
        refine AllReady.cons rfl (fun K hK => ?_) AllReady.nil
        go_simp
        go_at_call 29
        refine (g1.out _ B19).mono ?_
        rintro e w21 ⟨v21, rfl, own21, hb21⟩
        have B21 := B19.trans (hb21.mono B19.size)
        have X21 := Block.below X19 hb21 (Block.lt X19)
        have A21 := Block.below A19 hb21 (Block.lt A19)
        obtain ⟨P21, c21, rfl, p21, m21, H21⟩ := own21.opened
        refine hK _ _ ?_
        clear hK K
        refine wpAny_ready (rs := [5]) (by kernel_rfl) (by simp) ?_
        refine AllReady.cons rfl (fun K hK => ?_) AllReady.nil
        go_simp
        go_at_call 35
        refine (GL.out _ _ _ B21 p21 m21 H21).mono ?_
        rintro e w22 ⟨rfl, hb22⟩
        have B22 := B21.trans (hb22.mono B21.size)
        have X22 := Block.below X21 hb22 (Block.lt X21)
        have A22 := Block.below A21 hb22 (Block.lt A21)
        refine hK _ _ ?_
        clear hK K
        refine wpAny_take (i := 6) (v := .tuple #[arrV .u8 Y, .int .i64 E]) rfl (by kernel_rfl) (by kernel_rfl) (by kernel_rfl) (fun _ _ _ h => h) (Or.inl ⟨by rfl, fun W => by go_simp⟩) ?_
        refine wpAny_take (i := 7) (v := arrV .u8 Y) rfl (by kernel_rfl) (by kernel_rfl) (by kernel_rfl) (fun _ _ _ h => h) (Or.inl ⟨by rfl, fun W => by go_simp⟩) ?_
        refine wpAny_take (i := 8) (v := .int .i64 E) rfl (by kernel_rfl) (by kernel_rfl) (by kernel_rfl) (fun _ _ _ h => h) (Or.inl ⟨by rfl, fun W => by go_simp⟩) ?_
        go_simp
        refine wpAny_ready (rs := [10]) (by kernel_rfl) (by simp) ?_
        refine AllReady.cons rfl (fun K hK => ?_) AllReady.nil
        refine step_store_arr rfl _ _ _ rfl A22 rfl rfl (by rw [hY.out]; rfl) (by rw [hY.out]; kernel_rfl) ?_
        intro w9 r9 g9
        have hgl := G19
        have x9 := Arr.grown X22 g9 (by intro e; injection e with e; omega)
        have B9 := B22.trans (below_of_grown g9 B22.size (fun b hb => by injection hb with hb; omega))
        refine hK _ _ ?_
        clear hK K
        refine wpAny_ready (rs := [11]) (by kernel_rfl) (by simp) ?_
        refine AllReady.cons rfl (fun K hK => ?_) AllReady.nil
        go_simp
        refine hK _ _ ?_
        clear hK K
        refine wpAny_done (by kernel_rfl) ?_ _
        go_wp2_with fail
        go_meet
        exact ⟨_, rfl, rfl, hgl, r9, x9, B9⟩
      · go_simp
        go_at_call 29
        refine (g1.out _ B19).mono ?_
        rintro e w23 ⟨v23, rfl, own23, hb23⟩
        have B23 := B19.trans (hb23.mono B19.size)
        have X23 := Block.below X19 hb23 (Block.lt X19)
        have A23 := Block.below A19 hb23 (Block.lt A19)
        obtain ⟨P23, c23, rfl, p23, m23, H23⟩ := own23.opened
        refine hK _ _ ?_
        clear hK K
        refine wpAny_ready (rs := [0]) (by kernel_rfl) (by simp) ?_
        refine AllReady.cons rfl (fun K hK => ?_) AllReady.nil
        refine step_load_row (by rfl) _ _ rfl w.heap.size 0 (dcells x) rfl (Arr.range X23) arr32A rfl (by unfold dcells; rw [List.length_map, Hxl.out]; kernel_rfl) ?_
        go_simp
        refine hK _ _ ?_
        clear hK K
        refine wpAny_ready (rs := [5]) (by kernel_rfl) (by simp) ?_
        refine AllReady.cons rfl (fun K hK => ?_) AllReady.nil
        go_simp
        go_at_call 35
        refine (GL.out _ _ _ B23 p23 m23 H23).mono ?_
        rintro e w25 ⟨rfl, hb25⟩
        have B25 := B23.trans (hb25.mono B23.size)
        have X25 := Block.below X23 hb25 (Block.lt X23)
        have A25 := Block.below A23 hb25 (Block.lt A23)
        refine hK _ _ ?_
        clear hK K
        refine wpAny_take (i := 6) (v := .tuple #[arrV .u8 Y, .int .i64 E]) rfl (by kernel_rfl) (by kernel_rfl) (by kernel_rfl) (fun _ _ _ h => h) (Or.inl ⟨by rfl, fun W => by go_simp⟩) ?_
        refine wpAny_take (i := 7) (v := arrV .u8 Y) rfl (by kernel_rfl) (by kernel_rfl) (by kernel_rfl) (fun _ _ _ h => h) (Or.inl ⟨by rfl, fun W => by go_simp⟩) ?_
        refine wpAny_take (i := 8) (v := .int .i64 E) rfl (by kernel_rfl) (by kernel_rfl) (by kernel_rfl) (fun _ _ _ h => h) (Or.inl ⟨by rfl, fun W => by go_simp⟩) ?_
        go_simp
        refine wpAny_ready (rs := [10]) (by kernel_rfl) (by simp) ?_
        refine AllReady.cons rfl (fun K hK => ?_) AllReady.nil
        refine step_store_arr rfl _ _ _ rfl A25 rfl rfl (by rw [hY.out]; rfl) (by rw [hY.out]; kernel_rfl) ?_
        intro w9 r9 g9
        have hgl := G19
        have x9 := Arr.grown X25 g9 (by intro e; injection e with e; omega)
        have B9 := B25.trans (below_of_grown g9 B25.size (fun b hb => by injection hb with hb; omega))
        refine hK _ _ ?_
        clear hK K
        refine wpAny_ready (rs := [11]) (by kernel_rfl) (by simp) ?_
        refine AllReady.cons rfl (fun K hK => ?_) AllReady.nil
        go_simp
        refine hK _ _ ?_
        clear hK K
        refine wpAny_done (by kernel_rfl) ?_ _
        go_wp2_with fail
        go_meet
        exact ⟨_, rfl, rfl, hgl, r9, x9, B9⟩
  case rest =>
    obtain ⟨g, rfl, rfl, hg, r9, x9, B9⟩ := hcut
    have HL9 := hL.below B9
    rcases Hcase.out with ⟨hi, rfl, rfl⟩ | ⟨I, N, rfl, rfl, hIN, ⟨hw, rfl, rfl⟩ | ⟨hw, rfl, rfl, _⟩⟩
    · have ht : ∃ t1 t2 : Bool, decide (i < 0) = t1 ∧ decide (n ≤ i) = t2 ∧ (t1 = true ∨ t2 = true) := ⟨_, _, rfl, rfl, by simp only [decide_eq_true_eq]; exact hi⟩
      obtain ⟨t1, t2, dt1, dt2, ht⟩ := ht
      have g6 := Lib.hid (fun W => steps_any i n W hnb.2)
      rw [show stepsZ i n = -1 by unfold stepsZ; rw [if_pos hi]] at g6
      have hBz := build_zero
      have e2 := fun W => dig_eq zero32 zero32_d W
      have f2 := fun W x y => dig_guard zero32 x y W
      generalize zero32 = ys at *
      clear hi GL g1 Hs Hcase
      cases t1 <;> cases t2
      case false.false => simp at ht
      all_goals
        clear ht
        go_wp2_with (first
          | (refine wpList_load_arr rfl _ _ rfl r9 rfl arr32D rfl (by rw [hY.out]; kernel_rfl) ?_)
          | (refine wpList_build_known rfl _ _ rfl (arrV .u8 ys) (fun W => by simpa using hBz W) ?_)
          | (go_at_call 34; refine (g6.out _).mono ?_; rintro e w5 ⟨rfl, rfl⟩)
          | (go_at_call 25; refine (awake_any _ HL9).mono ?_; rintro e w6 ⟨rfl, hb6⟩))
        go_ret
        exact ⟨rfl, B9.trans (hb6.mono B9.size)⟩
    · have dt1 : decide ((I : Int) < 0) = false := decide_eq_false (by omega)
      have dt2 : decide (N ≤ I) = false := decide_eq_false (by omega)
      have g6 := Lib.hid (fun W => steps_any I N W hnb.2)
      rw [show stepsZ I N = stepsN I N by unfold stepsZ; rw [if_neg (by omega), Int.toNat_natCast, Int.toNat_natCast]] at g6
      have g7 := Lib.hid (fun W => rsteps_any N I W (by omega) hIN)
      have d3 : ((stepsN I N : Int) != (l.length : Int)) = true := by rw [bne_iff_ne]; omega
      have d4 : (stepsN I N != l.length) = true := by rw [bne_iff_ne]; omega
      have d5 : (stepsN I N == l.length) = false := by rw [beq_eq_false_iff_ne]; omega
      generalize stepsN I N = st at *
      have d6 : ((st : Int) == (st : Int)) = true := by simp
      have hBz := build_zero
      have e2 := fun W => dig_eq zero32 zero32_d W
      have f2 := fun W x y => dig_guard zero32 x y W
      generalize zero32 = ys at *
      clear GL g1 Hs Hcase hw
      go_wp2_with (first
        | (refine wpList_load_arr rfl _ _ rfl r9 rfl arr32D rfl (by rw [hY.out]; kernel_rfl) ?_)
        | (refine wpList_build_known rfl _ _ rfl (arrV .u8 ys) (fun W => by simpa using hBz W) ?_)
        | (go_at_call 34; refine (g6.out _).mono ?_; rintro e w5 ⟨rfl, rfl⟩)
        | (go_at_call 38; refine (g7.out _).mono ?_; rintro e w5 ⟨rfl, rfl⟩)
        | (go_at_call 25; refine (awake_any _ HL9).mono ?_; rintro e w6 ⟨rfl, hb6⟩))
      go_ret
      exact ⟨rfl, B9.trans (hb6.mono B9.size)⟩
    · have dt1 : decide ((I : Int) < 0) = false := decide_eq_false (by omega)
      have dt2 : decide (N ≤ I) = false := decide_eq_false (by omega)
      have g7 := Lib.hid (fun W => rsteps_any N I W (by omega) hIN)
      rw [← hw] at g7
      have d6 : ((l.length : Int) != (l.length : Int)) = false := by simp
      have g8 := Lib.hid (fun W (hB : Below w.heap.size w W) => rlead_any N B l d I x W (by omega) hw hd hm (Hs.out.on hB) hxd hIN)
      have hYd := leadR_d32 N I x l.reverse hxd
      have e2 : ∀ W, (binOp .eql 26 (.agg (dcells (leadL x I N l)).toArray) (arrV .u8 (leadL x I N l))).run Tryd.prog W = .ok (.bool true) W := fun W => dig_eq (leadL x I N l) hYd W
      have f2 : ∀ W x' y, (eqGuard .eql 26 x' y (.agg (dcells (leadL x I N l)).toArray) (arrV .u8 (leadL x I N l))).run Tryd.prog W = .ok () W := fun W x' y => dig_guard (leadL x I N l) x' y W
      generalize leadL x I N l = ys at *
      clear GL g1 Hs Hcase hw hYd
      go_wp2_with (go_at_call 38; refine (g7.out _).mono ?_; rintro e w5 ⟨rfl, rfl⟩)
      refine wp_region_quiet_below (by kernel_rfl) (by kernel_rfl) ?_
      go_big_quiet_step (fail)
      go_big_quiet_step (fail)
      go_big_quiet_step (fail)
      refine wpQuiet_step (fun K hK => ?_)
      refine quiet_load_row (by rfl) 26 _ (by rfl) g 0 (by rfl) (dcells ys) _ (range_regrown (Arr.range r9)) arr32D (by rfl) (by unfold dcells; rw [List.length_map, hY.out]; kernel_rfl) ?_
      go_simp
      refine hK _ ?_
      clear hK K
      refine wpQuiet_step (fun K hK => ?_)
      refine quiet_load_row (by rfl) 24 _ (by rfl) w.heap.size 0 (by rfl) (dcells x) _ (range_regrown (Arr.range x9)) arr32A (by rfl) (by unfold dcells; rw [List.length_map, Hxl.out]; kernel_rfl) ?_
      go_simp
      refine hK _ ?_
      clear hK K
      repeat (go_big_quiet_step (first | exact Calls.regrown_of (g8.out _ (B9.trans ((below_regrown _ _ _).mono B9.size))) | exact Calls.regrown_of (awake_any _ (HL9.below (below_regrown _ _ _)))))
      refine wpQuiet_nil ?_
      intro _ hw'
      obtain ⟨⟨dq, osq⟩, hw''⟩ := hw'
      have hbq := below_regrown wc dq osq
      subst hw''
      go_wp2_with fail
      go_ret
      exact ⟨rfl, B9.trans (hbq.mono B9.size)⟩
end Go.Proofs.YtdfgdchmeikigaaDoor.MerkleLeads
