/-
  JournalWrites: the walk: whether any record may be, its writing, or the error, are the document's; it is got as it was.
-/
import Derived.Test.YtdfgdchmeikigaaDoorJrM
import Derived.Test.YtdfgdchmeikigaaDoorJrN
import Derived.Test.YtdfgdchmeikigaaDoorJrE
import Derived.Test.YtdfgdchmeikigaaDoorJrK
import Derived.Deep.QuietTactic
import Derived.BigQuiet
import Derived.Lib.QuietBelow
namespace Go.Proofs.YtdfgdchmeikigaaDoor.JournalWrites
open Go.ChangeShapes Go.WideShapes Go.ChangeAt Go.RowKit Go.Proofs.YtdfgdchmeikigaaDoor.Kit Go.Proofs.YtdfgdchmeikigaaDoor.Jr
open Go.Proofs.YtdfgdchmeikigaaDoor.Sha (LaidS)

/-- A whole row is loaded, in a region whose callees make memory. -/
theorem quiet_load_row {P : Program} {ops : Array Oper} {o : Oper} {a : Act} {C : World → Prop} {K : Act → Prop} {E : Prop}
    (hw : Region.wanted o (yielded ops a.tmps) = true) (ty : TypeId) (x : Operand) (ho : o.op = .load ty x) (b f : Nat) (hx : a.eval x = .pointer (some ⟨b, f, none⟩)) (cs : List Value) (d : TypeDesc) (hc : ∀ W, C W → W.rangeAt b f cs)
    (hu : P.underlying ty = some d) (hd : d.isRow = true) (hi : (P.info? ty).map (·.size) = some cs.length) (hK : K (a.put o.dst (.agg cs.toArray))) :
    if Region.wanted o (yielded ops a.tmps) = true then o.quiet P a C K else E := by
  rw [if_pos hw]
  refine ⟨.agg cs.toArray, fun W hW => ?_, hK⟩
  unfold Oper.quietAt execOp
  simp only [ho, hx, Instr.loadAt, Instr.sureAddr, Sem.run_bind, Sem.run_pure, Result.andThen_ok, run_loadVar_mid W b f ty cs d (hc W hW) hu hd hi, Oper.quietUpon]
  trivial
theorem range_regrown {w : World} {b f : Nat} {cs : List Value} (h : w.rangeAt b f cs) : ∀ W, (∃ p : Regrown, W = Go.Sort.grow (redrawn w p.d) p.os) → W.rangeAt b f cs := by
  rintro W ⟨p, rfl⟩ j v hj
  exact cell_regrown (h j v hj) p.d p.os

theorem holds_regrown {w : World} {B : Nat} {k : IntKind} {A : Option Addr} {xs : List Int} (h : Holds w B k A xs) : ∀ d os, Holds (Go.Sort.grow (redrawn w d) os) B k A xs := fun d os hx => by
  obtain ⟨b, off, e, hb, hc⟩ := h hx
  exact ⟨b, off, e, hb, fun j hj => cell_regrown (hc j hj) d os⟩

set_option maxRecDepth 100000 in
set_option maxHeartbeats 6400000 in
theorem walk (r : Rec) (w : World) (ho : r.Ok) (_ : True) (hL : LaidS w) :
    Calls Tryd.prog 11 #[.agg r.cells.toArray] w fun e w' => e = .returned (.bool true) ∧ Below w.heap.size w w' := by
  have B1 := below_last w (.cells r.cells.toArray 67)
  have M1 : RecAt (w.alloc (.cells r.cells.toArray 67)) w.heap.size r := Block.new w _ _
  have g1 := M1.lt
  have HL := Lib.hid (r.cells_length ho.man)
  have HO := Lib.hid r.cells_one
  have GA := Lib.hid (fun W hB => Jr.awake_any W (hL.below hB))
  have GP : Hid (∀ W, Below w.heap.size w W → Calls Tryd.prog 41 #[.agg r.cells.toArray] W (Gives2 r.putV r.putE W)) := Lib.hid (fun W hB => jput_any r ho W (hL.below hB))
  have GR := Lib.hid (fun W => rput_rec r ho W)
  have GM := Lib.hid (fun W => may_any r ho W)
  have GN := Lib.hid (fun W => rmay_any r ho W)
  have HEQ := Lib.hid (eql_same r ho.man)
  have R1 := block_range (L := r.cells) M1
  cases hmay : r.may with
  | true =>
    have hV : r.putV = r.putL := by unfold Rec.putV; rw [if_pos hmay]
    have hE : r.putE = 0 := by unfold Rec.putE; rw [if_pos hmay]
    obtain ⟨e1, e2, e3, e4⟩ := got_put r ho hmay
    have GG : Hid (∀ (A : Option Addr) (c : Nat) (W : World), r.putL.length ≤ c → c ≤ maxLen → Holds W W.heap.size .u8 A r.putL → Below w.heap.size w W → Calls Tryd.prog 46 #[.slice A r.putL.length c] W fun e w' => e = .returned (.tuple #[.agg r.cells.toArray, .int .i64 0]) ∧ Below W.heap.size W w') := Lib.hid (fun A c W hc hm hr hB => by
      have := jget_any A r.putL c W hc hm (by omega) e4 hr (hL.below hB)
      rw [gotV_put r ho hmay, e1] at this
      exact this)
    have HQ := Lib.hid e3
    rw [hV, hE] at GP GR
    rw [hmay] at GM GN
    clear hV hE e1 e2 e3 e4 hmay
    generalize r.putL = P at *
    obtain ⟨L, hLL⟩ : ∃ L, r.cells = L := ⟨_, rfl⟩
    rw [hLL] at B1 M1 R1 HL g1 GM GN GP GR GG HO HEQ ⊢
    have N1 : Block (w.alloc (.cells L.toArray 67)) w.heap.size 67 L.toArray := Block.new w _ _
    clear hLL M1
    generalize hW : w.alloc (.cells L.toArray 67) = w1 at *
    go_enter Tryd.func11, Tryd.ntmps11
    go_wp2_with (first
      | (have _t := R1; rw [hW]; refine wpList_load_midV (by rfl) _ _ rfl _ 0 rfl L R1 Tryd.underlying67 rfl (by rw [HL.out]; kernel_rfl) ?_)
      | (have _t := R1; refine wpList_load_midV (by rfl) _ _ rfl _ 0 rfl L R1 Tryd.underlying67 rfl (by rw [HL.out]; kernel_rfl) ?_)
      | (go_at_call 41; (with_reducible refine (GP.out _ B1).mono ?_); rintro e w2 ⟨A2, c2, rfl, hl2, hm2, hr2, hb2⟩; have B2 := B1.trans (hb2.mono B1.size); have N2 := N1.below hb2 g1; have R2 := block_range (L := L) N2; have g2 := N2.lt; clear R1)
      | (have _t := R2; refine wpList_load_midV (by rfl) _ _ rfl _ 0 rfl L R2 Tryd.underlying67 rfl (by rw [HL.out]; kernel_rfl) ?_)
      | (go_at_call 42; (with_reducible refine (GR.out _).mono ?_); rintro e w3 ⟨A3, c3, rfl, hl3, hm3, hr3, hb3⟩; have B3 := B2.trans (hb3.mono B2.size); have N3 := N2.below hb3 g2; have R3 := block_range (L := L) N3; have g3 := N3.lt; have hr2' := hr2.below hb3; clear R2))
    have hs3 := hb3.size
    have k2 := fun d os => conv_bytes (P := Tryd.prog) Tryd.underlying35 Tryd.underlying5 Tryd.underlying9 _ A2 P c2 _ (holds_regrown hr2' d os)
    have k3 := fun d os => conv_bytes (P := Tryd.prog) Tryd.underlying35 Tryd.underlying5 Tryd.underlying9 _ A3 P c3 _ (holds_regrown hr3 d os)
    refine wp_region_quiet_below (by kernel_rfl) (by kernel_rfl) ?_
    repeat (go_big_quiet_step (fail))
    refine wpQuiet_step (fun K hK => ?_)
    refine quiet_load_row (by rfl) 67 _ (by rfl) w.heap.size 0 (by rfl) L _ (range_regrown R3) Tryd.underlying67 (by rfl) (by rw [HL.out]; kernel_rfl) ?_
    go_simp
    refine hK _ ?_
    clear hK K
    go_big_quiet_step (exact Calls.regrown_of (GM.out _))
    refine wpQuiet_step (fun K hK => ?_)
    refine quiet_load_row (by rfl) 67 _ (by rfl) w.heap.size 0 (by rfl) L _ (range_regrown R3) Tryd.underlying67 (by rfl) (by rw [HL.out]; kernel_rfl) ?_
    go_simp
    refine hK _ ?_
    clear hK K
    go_big_quiet_step (exact Calls.regrown_of (GN.out _))
    repeat (go_big_quiet_step (fail))
    refine wpQuiet_nil ?_
    intro _ hw'
    obtain ⟨⟨dq, osq⟩, hw''⟩ := hw'
    have hbq := below_regrown w3 dq osq
    subst hw''
    generalize Go.Sort.grow (redrawn w3 dq) osq = w4 at *
    have B4 := B3.trans (hbq.mono B3.size)
    have hr4 := (hr2'.more hb3.size).below hbq
    have N4 : Block w4 w.heap.size 67 L.toArray := Block.below N3 hbq g3
    have G5 := Lib.hid (GG.out A2 c2 w4 hl2 hm2 (hr4.more hbq.size) B4)
    clear k2 k3 R3 N3 hr2' hr2 hr3 hb2 hb3 hbq GG GP GR GM GN hs3 hr4
    go_wp2_with (first
      | (go_at_call 46; (with_reducible refine G5.out.mono ?_); rintro e w5 ⟨rfl, hb5⟩; have B5 := B4.trans (hb5.mono B4.size); have N5 : Block w5 w.heap.size 67 L.toArray := Block.below N4 hb5 (Block.lt N4); have s5 := B5.size)
      | (have _t := B5; refine wpList_store_blk rfl _ _ _ rfl (ds := L) (Block.new w5 _ _) rfl rfl (by rw [HL.out]; rfl) (by rw [HL.out]; kernel_rfl) HO.out ?_; clear _t; intro w6 R6 g6; have N6 : Block w6 w.heap.size 67 L.toArray := (Block.alloc N5 _).grown g6 (by intro e; injection e with e; have := Block.lt N5; omega); have B6 : Below w.heap.size w w6 := (B5.alloc B5.size _).trans (below_of_grown g6 (B5.alloc B5.size _).size fun b hb => by injection hb with hb; omega); clear g6)
      | (have _t := R6; refine wpList_load_midV (by rfl) _ _ rfl w5.heap.size 0 rfl L (block_range R6) Tryd.underlying67 rfl (by rw [HL.out]; kernel_rfl) ?_)
      | (have _t := R6; refine wpList_load_midV (by rfl) _ _ rfl w.heap.size 0 rfl L (block_range N6) Tryd.underlying67 rfl (by rw [HL.out]; kernel_rfl) ?_)
      | (have _t := R6; refine wpList_eql_rec (by rfl) _ _ _ rfl (r := L.toArray) (s := L.toArray) rfl rfl HEQ.out ?_)
      | (go_at_call 45; (with_reducible refine (GA.out _ B6).mono ?_); rintro e w7 ⟨rfl, hb7⟩))
    go_ret
    exact ⟨rfl, B6.trans (hb7.mono B6.size)⟩
  | false =>
    have hV : r.putV = [] := by unfold Rec.putV; rw [if_neg (by rw [hmay]; decide)]
    have hE : r.putE = 3 := by unfold Rec.putE; rw [if_neg (by rw [hmay]; decide)]
    rw [hV, hE] at GP GR
    rw [hmay] at GM GN
    clear hV hE hmay HEQ HO
    obtain ⟨L, hLL⟩ : ∃ L, r.cells = L := ⟨_, rfl⟩
    rw [hLL] at B1 M1 R1 HL g1 GM GN GP GR ⊢
    have N1 : Block (w.alloc (.cells L.toArray 67)) w.heap.size 67 L.toArray := Block.new w _ _
    clear hLL M1
    generalize hW : w.alloc (.cells L.toArray 67) = w1 at *
    go_enter Tryd.func11, Tryd.ntmps11
    go_wp2_with (first
      | (have _t := R1; rw [hW]; refine wpList_load_midV (by rfl) _ _ rfl _ 0 rfl L R1 Tryd.underlying67 rfl (by rw [HL.out]; kernel_rfl) ?_)
      | (have _t := R1; refine wpList_load_midV (by rfl) _ _ rfl _ 0 rfl L R1 Tryd.underlying67 rfl (by rw [HL.out]; kernel_rfl) ?_)
      | (go_at_call 41; (with_reducible refine (GP.out _ B1).mono ?_); rintro e w2 ⟨A2, c2, rfl, hl2, hm2, hr2, hb2⟩; have B2 := B1.trans (hb2.mono B1.size); have N2 := N1.below hb2 g1; have R2 := block_range (L := L) N2; have g2 := N2.lt; clear R1)
      | (have _t := R2; refine wpList_load_midV (by rfl) _ _ rfl _ 0 rfl L R2 Tryd.underlying67 rfl (by rw [HL.out]; kernel_rfl) ?_)
      | (go_at_call 42; (with_reducible refine (GR.out _).mono ?_); rintro e w3 ⟨A3, c3, rfl, hl3, hm3, hr3, hb3⟩; have B3 := B2.trans (hb3.mono B2.size); have N3 := N2.below hb3 g2; have R3 := block_range (L := L) N3; have g3 := N3.lt; have hr2' := hr2.below hb3; clear R2))
    have k2 := fun d os => conv_bytes (P := Tryd.prog) Tryd.underlying35 Tryd.underlying5 Tryd.underlying9 _ A2 [] c2 _ (holds_regrown hr2' d os)
    have k3 := fun d os => conv_bytes (P := Tryd.prog) Tryd.underlying35 Tryd.underlying5 Tryd.underlying9 _ A3 [] c3 _ (holds_regrown hr3 d os)
    simp only [List.length_nil] at k2 k3
    generalize strOfNums [] = s0 at *
    refine wp_region_quiet_below (by kernel_rfl) (by kernel_rfl) ?_
    repeat (go_big_quiet_step (fail))
    refine wpQuiet_step (fun K hK => ?_)
    refine quiet_load_row (by rfl) 67 _ (by rfl) w.heap.size 0 (by rfl) L _ (range_regrown R3) Tryd.underlying67 (by rfl) (by rw [HL.out]; kernel_rfl) ?_
    go_simp
    refine hK _ ?_
    clear hK K
    go_big_quiet_step (exact Calls.regrown_of (GM.out _))
    refine wpQuiet_step (fun K hK => ?_)
    refine quiet_load_row (by rfl) 67 _ (by rfl) w.heap.size 0 (by rfl) L _ (range_regrown R3) Tryd.underlying67 (by rfl) (by rw [HL.out]; kernel_rfl) ?_
    go_simp
    refine hK _ ?_
    clear hK K
    go_big_quiet_step (exact Calls.regrown_of (GN.out _))
    repeat (go_big_quiet_step (fail))
    refine wpQuiet_nil ?_
    intro _ hw'
    obtain ⟨⟨dq, osq⟩, hw''⟩ := hw'
    have hbq := below_regrown w3 dq osq
    subst hw''
    generalize Go.Sort.grow (redrawn w3 dq) osq = w4 at *
    have B4 := B3.trans (hbq.mono B3.size)
    clear k2 k3 R3 hr2' hr2 hr3 hb2 hb3 hbq GP GR GM GN
    go_wp2_with (go_at_call 45; (with_reducible refine (GA.out _ B4).mono ?_); rintro e w7 ⟨rfl, hb7⟩)
    go_ret
    exact ⟨rfl, B4.trans (hb7.mono B4.size)⟩
end Go.Proofs.YtdfgdchmeikigaaDoor.JournalWrites
