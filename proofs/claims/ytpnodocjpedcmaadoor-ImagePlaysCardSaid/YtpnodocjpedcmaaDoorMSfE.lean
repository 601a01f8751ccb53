/-
  Layer 6, the document's device: Write: contract. Conditions: as each theorem names.
-/
import Derived.Test.YtpnodocjpedcmaaDoorMSfD
import Derived.RegionTactic
import Derived.Deep.RegionHeld
import Derived.StillTailTactics
import Derived.Deep.RegionHeld3
namespace Go.Proofs.YtpnodocjpedcmaaDoor.Sec
open Go.ChangeShapes Go.WideShapes Go.ChangeAt Go.RowKit Go.Proofs.YtpnodocjpedcmaaDoor.Kit

theorem results_tmp_row {P : Program} {fn : Func} {p q : Tmp} {ty : TypeId} (h : fn.results = #[.tmp q, .cell p ty]) (tmps : Array Value) (w : World) (g : Nat) (t : TypeId) (cs : Array Value) (fr : Nat × Nat) (d : TypeDesc)
    (v : Value) (hq : tmps.getD q undef = v) (hp : tmps.getD p undef = .pointer (some ⟨g, 0, none⟩)) (hg : w.heap[g]? = some (.cells cs t fr))
    (hu : P.underlying ty = some d) (hd : (match d with | .struct _ | .array _ _ => true | _ => false) = true) (hi : (P.info? ty).map (·.size) = some cs.size) :
    (results fn tmps).run P w = .ok (.tuple #[v, .agg cs]) w := by
  have hp' : tmps[p]?.getD undef = .pointer (some ⟨g, 0, none⟩) := by simpa using hp
  have hq' : tmps[q]?.getD undef = v := by simpa using hq
  simp [results, h, hp', hq', asAddr, run_loadVar_row w g t ty cs fr d hg hu hd hi]

/-- A whole row is loaded, among the operations that only read. -/
theorem still_load_row {P : Program} {ops : Array Oper} {o : Oper} {a : Act} {w : World} {K : Act → Prop} {E : Prop}
    (hg : o.guard = none) (ty : TypeId) (x : Operand) (ho : o.op = .load ty x) (b f : Nat) (hx : a.eval x = .pointer (some ⟨b, f, none⟩)) (cs : List Value) (d : TypeDesc) (hc : w.rangeAt b f cs)
    (hu : P.underlying ty = some d) (hd : d.isRow = true) (hi : (P.info? ty).map (·.size) = some cs.length) (hK : K (a.put o.dst (.agg cs.toArray))) :
    if Region.wanted o (yielded ops a.tmps) = true then o.still P a w K else E := by
  have hw : Region.wanted o (yielded ops a.tmps) = true := by simp [Region.wanted, hg]
  rw [if_pos hw]
  unfold Oper.still execOp
  simp only [ho, hx, Instr.loadAt, Instr.sureAddr, Sem.run_bind, Sem.run_pure, Result.andThen_ok, run_loadVar_mid w b f ty cs d hc hu hd hi, Oper.stillUpon_value]
  exact hK

theorem HoldsF.turn {w w' : World} {A : Option Addr} {l : Sl} {g : Nat} {t : TypeId} {cs : Array Value} (h : HoldsF w w.heap.size A l) (X : Block w g t cs) (hcs : NoText cs) (hg : TurnsIn (fun b => b = g) w w') : HoldsF w' w'.heap.size A l := by
  intro hx
  obtain ⟨b, off, e, hb, hc⟩ := h hx
  have hne : b ≠ g := by
    rintro rfl
    have h1 := hc 0 (l[0]'hx) (List.getElem?_eq_getElem hx) 1 _ rfl
    rw [X.cell] at h1
    exact hcs _ _ h1
  refine ⟨b, off, e, Nat.lt_of_lt_of_le hb hg.size, fun j p hj i u hu => ?_⟩
  exact (World.cell?_of_block (w := w) (a := ⟨b, _, none⟩) (hg.block b hb hne)).trans (hc j p hj i u hu)
theorem RDv.turn {w w' : World} {v : Value} {s : Dv} {g : Nat} {t : TypeId} {cs : Array Value} (h : RDv w v s) (X : Block w g t cs) (hcs : NoText cs) (hg : TurnsIn (fun b => b = g) w w') : RDv w' v s := by
  obtain ⟨Ak, ck, Aw, cw, e, h1, h2, r⟩ := h
  exact ⟨Ak, ck, Aw, cw, e, h1.turn X hcs hg, h2.turn X hcs hg, r⟩

set_option maxRecDepth 100000 in
set_option maxHeartbeats 6400000 in
theorem rwrite_any (v : Value) (s : Dv) (i : Int) (xs : List Int) (w : World) (h : RDv w v s) (hok : s.Ok) (hi : -9223372036854775808 ≤ i ∧ i ≤ 9223372036854775807) (hx : xs.length ≤ 1000000000) (hof : s.offs ≤ 1000000000) (hwr : s.wr ≤ 1000000000) :
    Calls Tryd.prog 13 #[v, .int .i64 i, .string (strOfNums xs)] w (GivesED (s.write i xs).1 (s.write i xs).2 w) := by
  have h0 := Lib.hid h
  have hO := Lib.hid hok
  have ho1 := hok.o1
  have hw1 := hok.w1
  have hf1 := hok.f1
  have hf2 := hok.f2
  have hs2 := hok.s2
  have hfew := waits_few hok
  have hup := Lib.hid hok.wu
  clear hok
  obtain ⟨Ak, ck, Aw, cw, rfl, hk, hw, r⟩ := h
  have HSz := Lib.hid (strOfNums_size xs)
  have hsz := HSz.out
  have BT := Lib.hid (fun o p => (below_draws (below_two w o p) 1 : Below w.heap.size w ((w.alloc o).alloc p).drew))
  have HR := Lib.hid r
  have HK := Lib.hid hk
  clear r
  unfold dCells at h0 ⊢
  unfold Dv.write
  cases hoff : s.off with
  | true =>
    rw [if_pos rfl]
    have HRD := Lib.hid (fun W (hB : Below w.heap.size w W) => h0.out.below hB)
    rw [hoff] at HRD
    clear hk hw
    go_enter Tryd.func13, Tryd.ntmps13
    go_wp2_with fail
    go_region
    all_goals
      go_wp2_with fail
      exact bodyPost_ret (v := .tuple #[.int .i64 8, .agg _]) (results_tmp_row rfl _ _ (w.heap.size + 1) 31 _ (0, 0) _ _ rfl rfl (block_two w _ _ _) Tryd.underlying31 rfl (by kernel_rfl)) rfl ⟨_, rfl, HRD.out _ (BT.out _ _), BT.out _ _⟩
  | false =>
    rw [if_neg (by decide)]
    have HRD := Lib.hid (fun W (hB : Below w.heap.size w W) => h0.out.below hB)
    rw [hoff] at HRD
    by_cases hlo : i < 0
    · rw [if_pos (Or.inl hlo)]
      have d1 : decide (i < 0) = true := decide_eq_true hlo
      clear hk hw
      go_enter Tryd.func13, Tryd.ntmps13
      go_wp2_with fail
      go_region
      all_goals
        go_wp2_with fail
        exact bodyPost_ret (v := .tuple #[.int .i64 5, .agg _]) (results_tmp_row rfl _ _ (w.heap.size + 1) 31 _ (0, 0) _ _ rfl rfl (block_two w _ _ _) Tryd.underlying31 rfl (by kernel_rfl)) rfl ⟨_, rfl, HRD.out _ (BT.out _ _), BT.out _ _⟩
    · have d1 : decide (i < 0) = false := decide_eq_false hlo
      by_cases hhi : (s.count : Int) ≤ i
      · rw [if_pos (Or.inr hhi)]
        have d2 : decide ((s.count : Int) ≤ i) = true := decide_eq_true hhi
        clear hk hw
        go_enter Tryd.func13, Tryd.ntmps13
        go_wp2_with fail
        go_region
        all_goals
          go_wp2_with fail
          exact bodyPost_ret (v := .tuple #[.int .i64 5, .agg _]) (results_tmp_row rfl _ _ (w.heap.size + 1) 31 _ (0, 0) _ _ rfl rfl (block_two w _ _ _) Tryd.underlying31 rfl (by kernel_rfl)) rfl ⟨_, rfl, HRD.out _ (BT.out _ _), BT.out _ _⟩
      · have d2 : decide ((s.count : Int) ≤ i) = false := decide_eq_false hhi
        rw [if_neg (by omega)]
        by_cases hlen : xs.length = s.size
        · rw [if_neg (fun e => e hlen)]
          have b1 : ((xs.length : Int) != (s.size : Int)) = false := by rw [hlen]; simp
          have b2 : ((xs.length : Int) == (s.size : Int)) = true := by rw [hlen]; simp
          clear hlen
          have GP : Hid (∀ W, Below w.heap.size w W → Calls Tryd.prog 44 #[.slice Aw s.waits.length cw, .agg #[.int .i64 i, .string (strOfNums xs), .bool false]] W (GivesF (putS s.waits i (some xs)) W)) :=
            Lib.hid (fun W hB => put_any Aw s.waits cw i (some xs) W (by have := up_length s.waits 0 hO.out.wu hO.out.wr_; have := hO.out.c2; omega) hup.out ((hw.below hB).more hB.size))
          obtain ⟨nw, hnw⟩ : ∃ nw, putS s.waits i (some xs) = nw := ⟨_, rfl⟩
          have HNW := Lib.hid hnw
          rw [hnw] at GP
          have X1 := Lib.hid ((Block.new w 31 #[.int .i64 s.size, .int .i64 s.count, .slice Ak s.kept.length ck, .slice Aw s.waits.length cw, .bool false, .int .i64 s.offs, .int .i64 s.fuse, .int .u64 s.wr]).alloc (.cells #[.int .i64 0, .int .i64 0, .slice none 0 0, .slice none 0 0, .bool false, .int .i64 0, .int .i64 0, .int .u64 0] 31))
          have X2 := Lib.hid (block_two w (.cells #[.int .i64 s.size, .int .i64 s.count, .slice Ak s.kept.length ck, .slice Aw s.waits.length cw, .bool false, .int .i64 s.offs, .int .i64 s.fuse, .int .u64 s.wr] 31) 31 #[.int .i64 0, .int .i64 0, .slice none 0 0, .slice none 0 0, .bool false, .int .i64 0, .int .i64 0, .int .u64 0])
          have B2 := Lib.hid (fun o p => below_two w o p)
          have hz2 := Lib.hid (fun o p => show ((w.alloc o).alloc p).heap.size = w.heap.size + 2 by simp)
          clear hk hw hlo hhi hnw
          by_cases hf0 : s.fuse = 0
          · rw [if_pos hf0]
            obtain ⟨sn, hsn⟩ : ∃ sn : Dv, (⟨s.size, s.count, s.kept, nw, false, s.offs, s.fuse, s.wr⟩ : Dv) = sn := ⟨_, rfl⟩
            have hs9 : (s.writes i xs).tick = sn.down := by
              rw [← hsn, ← HNW.out]
              unfold Dv.tick Dv.writes
              simp only [if_neg (show ¬ s.fuse = -1 by omega), if_pos hf0, hoff]
            rw [hs9]
            clear hs9
            have HSN := Lib.hid hsn
            have hso : 0 ≤ sn.offs ∧ sn.offs ≤ 1000000000 := by rw [← hsn]; exact ⟨ho1, hof⟩
            have GF : Hid (∀ W A5 c5, RDv W (.agg (dCells Ak ck A5 c5 sn)) sn → Calls Tryd.prog 45 #[.agg #[.int .i64 s.size, .int .i64 s.count, .slice Ak s.kept.length ck, .slice A5 nw.length c5, .bool false, .int .i64 s.offs, .int .i64 s.fuse, .int .u64 s.wr]] W (GivesD sn.down W)) :=
              Lib.hid (fun W A5 c5 h9 => by
                have := rfall_any _ sn W h9 hso
                rw [← hsn] at this ⊢
                exact this)
            clear hsn hoff hso
            generalize sn.down = sd at *
            have b3 : (s.fuse == 0) = true := by simpa using hf0
            clear hf0
            go_enter Tryd.func13, Tryd.ntmps13
            go_wp2_with (first
              | (go_at_call 44; (with_reducible refine (GP.out _ (B2.out _ _)).mono ?_); rintro e w5 ⟨v5, rfl, own5, hb5⟩; obtain ⟨A5, c5, rfl, hl5, hm5, hh5⟩ := own5.opened; have X5 := X1.out.below hb5 (by rw [hz2.out]; omega); have Z5 := X2.out.below hb5 (by rw [hz2.out]; omega); have y0 := X5.cell 0; have y1 := X5.cell 1; have y2 := X5.cell 2; have y3 := X5.cell 3; have y4 := X5.cell 4; have y5 := X5.cell 5; have y6 := X5.cell 6; have y7 := X5.cell 7; have q3 := X5.frozen 3; have q6 := X5.frozen 6; have q7 := X5.frozen 7; have B5 := (B2.out _ _).trans (hb5.mono (by rw [hz2.out]; omega)); have HKX := HRD.out w5 B5; have hk5 : HoldsF w5 w5.heap.size Ak s.kept := (HK.out.below B5).more B5.size; have Z6 := Z5.far (p := ⟨w.heap.size, 3, none⟩) (by show w.heap.size + 1 ≠ w.heap.size; omega) (.slice A5 nw.length c5); have T6 := (TurnsIn.refl (fun b => b = w.heap.size) w5).setCell (p := ⟨w.heap.size, 3, none⟩) (Or.inl rfl) (.slice A5 nw.length c5); have hrr := HR.out; have RV6 := RDv.turn (w := w5) (v := .agg (dCells Ak ck A5 c5 (⟨s.size, s.count, s.kept, nw, false, s.offs, s.fuse, s.wr⟩ : Dv))) (s := (⟨s.size, s.count, s.kept, nw, false, s.offs, s.fuse, s.wr⟩ : Dv)) ⟨Ak, ck, A5, c5, rfl, hk5, hh5, hrr.1, hrr.2.1, hl5, hm5⟩ X5 (noText_list (by intro u hu x; simp only [List.mem_cons, List.not_mem_nil, or_false] at hu; rcases hu with rfl | rfl | rfl | rfl | rfl | rfl | rfl | rfl <;> exact fun e => by cases e)) T6; rw [HSN.out] at RV6; have B6 := B5.trans (T6.toBelow B5.size (fun b hb e => by omega)); clear T6)
              | (have _t := Z6; go_at_call 45; (with_reducible refine (GF.out _ A5 c5 RV6).mono ?_); clear _t; rintro e w7 ⟨v7, rfl, hv7, hb7⟩; have Z7 := Z6.below hb7 Z6.lt; have B7 := B6.trans (hb7.mono B6.size); obtain ⟨Ak7, ck7, Aw7, cw7, hve, hr7⟩ := hv7; have RV7 : RDv w7 (.agg (dCells Ak7 ck7 Aw7 cw7 sd)) sd := ⟨Ak7, ck7, Aw7, cw7, rfl, hr7⟩; subst hve; clear Z6 X5 Z5)
              | (have _t := Z7; refine wpList_store_blk (cs := zD) rfl _ _ _ rfl (ds := (dCells Ak7 ck7 Aw7 cw7 sd).toList) (by exact Z7) rfl rfl rfl (by kernel_rfl) (dCells_one _ _ _ _ _) ?_; clear _t; intro w8 X8 g8))
            try simp only [Act.put]
            exact bodyPost_ret (v := .tuple #[.int .i64 8, .agg (dCells Ak7 ck7 Aw7 cw7 sd)]) (results_tmp_row rfl _ _ (w.heap.size + 1) 31 _ (0, 0) _ _ rfl rfl X8 Tryd.underlying31 rfl (by kernel_rfl)) rfl ⟨_, rfl, RV7.kept Z7 zD_noText g8, B7.trans (below_of_grown g8 B7.size fun b hb => by injection hb with hb; omega)⟩
          · rw [if_neg hf0]
            by_cases hfp : 0 < s.fuse
            · obtain ⟨sn, hsn⟩ : ∃ sn : Dv, (⟨s.size, s.count, s.kept, nw, false, s.offs, s.fuse - 1, s.wr + 1⟩ : Dv) = sn := ⟨_, rfl⟩
              have hs9 : { (s.writes i xs).tick with wr := s.wr + 1 } = sn := by
                rw [← hsn, ← HNW.out]
                unfold Dv.tick Dv.writes
                simp only [if_neg (show ¬ s.fuse = -1 by omega), if_neg hf0, hoff]
              rw [hs9]
              clear hs9
              have HSN := Lib.hid hsn
              clear hsn hoff
              have b3 : (s.fuse == 0) = false := by simpa using hf0
              have b4 : decide (0 < s.fuse) = true := decide_eq_true hfp
              go_enter Tryd.func13, Tryd.ntmps13
              go_wp2_with (go_at_call 44; (with_reducible refine (GP.out _ (B2.out _ _)).mono ?_); rintro e w5 ⟨v5, rfl, own5, hb5⟩; obtain ⟨A5, c5, rfl, hl5, hm5, hh5⟩ := own5.opened; have X5 := X1.out.below hb5 (by rw [hz2.out]; omega); have Z5 := X2.out.below hb5 (by rw [hz2.out]; omega); have y0 := X5.cell 0; have y1 := X5.cell 1; have y2 := X5.cell 2; have y3 := X5.cell 3; have y4 := X5.cell 4; have y5 := X5.cell 5; have y6 := X5.cell 6; have y7 := X5.cell 7; have q3 := X5.frozen 3; have q6 := X5.frozen 6; have q7 := X5.frozen 7; have B5 := (B2.out _ _).trans (hb5.mono (by rw [hz2.out]; omega)); have HKX := HRD.out w5 B5; have hk5 : HoldsF w5 w5.heap.size Ak s.kept := (HK.out.below B5).more B5.size)
              have X7 : Block (((w5.setCell ⟨w.heap.size, 3, none⟩ (.slice A5 nw.length c5)).setCell ⟨w.heap.size, 6, none⟩ (.int .i64 (s.fuse - 1))).setCell ⟨w.heap.size, 7, none⟩ (.int .u64 (s.wr + 1))) w.heap.size 31 (dCells Ak ck A5 c5 (⟨s.size, s.count, s.kept, nw, false, s.offs, s.fuse - 1, s.wr + 1⟩ : Dv)) := (((X5.set_ 3 (.slice A5 nw.length c5)).set_ 6 (.int .i64 (s.fuse - 1))).set_ 7 (.int .u64 (s.wr + 1)))
              have Z7 : Block (((w5.setCell ⟨w.heap.size, 3, none⟩ (.slice A5 nw.length c5)).setCell ⟨w.heap.size, 6, none⟩ (.int .i64 (s.fuse - 1))).setCell ⟨w.heap.size, 7, none⟩ (.int .u64 (s.wr + 1))) (w.heap.size + 1) 31 zD := (((Z5.far (p := ⟨w.heap.size, 3, none⟩) (by show w.heap.size + 1 ≠ w.heap.size; omega) (.slice A5 nw.length c5)).far (p := ⟨w.heap.size, 6, none⟩) (by show w.heap.size + 1 ≠ w.heap.size; omega) (.int .i64 (s.fuse - 1))).far (p := ⟨w.heap.size, 7, none⟩) (by show w.heap.size + 1 ≠ w.heap.size; omega) (.int .u64 (s.wr + 1)))
              have T7 : TurnsIn (fun b => b = w.heap.size) w5 (((w5.setCell ⟨w.heap.size, 3, none⟩ (.slice A5 nw.length c5)).setCell ⟨w.heap.size, 6, none⟩ (.int .i64 (s.fuse - 1))).setCell ⟨w.heap.size, 7, none⟩ (.int .u64 (s.wr + 1))) := ((((TurnsIn.refl (fun b => b = w.heap.size) w5).setCell (p := ⟨w.heap.size, 3, none⟩) (Or.inl rfl) (.slice A5 nw.length c5)).setCell (p := ⟨w.heap.size, 6, none⟩) (Or.inl rfl) (.int .i64 (s.fuse - 1))).setCell (p := ⟨w.heap.size, 7, none⟩) (Or.inl rfl) (.int .u64 (s.wr + 1)))
              generalize (((w5.setCell ⟨w.heap.size, 3, none⟩ (.slice A5 nw.length c5)).setCell ⟨w.heap.size, 6, none⟩ (.int .i64 (s.fuse - 1))).setCell ⟨w.heap.size, 7, none⟩ (.int .u64 (s.wr + 1))) = w7 at *
              have hr7 := HR.out
              have RV7 : RDv w7 (.agg (dCells Ak ck A5 c5 (⟨s.size, s.count, s.kept, nw, false, s.offs, s.fuse - 1, s.wr + 1⟩ : Dv))) (⟨s.size, s.count, s.kept, nw, false, s.offs, s.fuse - 1, s.wr + 1⟩ : Dv) := RDv.turn (w := w5) (s := (⟨s.size, s.count, s.kept, nw, false, s.offs, s.fuse - 1, s.wr + 1⟩ : Dv)) ⟨Ak, ck, A5, c5, rfl, hk5, hh5, hr7.1, hr7.2.1, hl5, hm5⟩ X5 (noText_list (by intro u hu x; simp only [List.mem_cons, List.not_mem_nil, or_false] at hu; rcases hu with rfl | rfl | rfl | rfl | rfl | rfl | rfl | rfl <;> exact fun e => by cases e)) T7
              rw [HSN.out] at X7 RV7
              have B7 : Below w.heap.size w w7 := B5.trans (T7.toBelow B5.size (fun b hb e => by omega))
              clear X5 Z5 y0 y1 y2 y3 y4 y5 y6 y7 q3 q6 q7 B5 HKX hk5 hh5 T7 hb5 hl5 hm5 own5
              refine wp_region_still_tail 2 (by kernel_rfl) (by kernel_rfl) ?_
              simp only [List.take_succ_cons, List.take_zero, List.drop_succ_cons, List.drop_zero]
              refine wpStill_step (fun K9 hK9 => ?_)
              refine still_load_row (by rfl) 31 _ (by rfl) w.heap.size 0 (by rfl) (dCells Ak ck A5 c5 sn).toList _ (by exact block_range X7) Tryd.underlying31 (by rfl) (by kernel_rfl) ?_
              refine hK9 _ ?_
              clear hK9 K9
              still_step
              refine wpStill_nil ?_
              refine wpList_store_blk (w := w7.drew) (cs := zD) rfl _ _ _ rfl (ds := (dCells Ak ck A5 c5 sn).toList) (by exact Z7) rfl rfl rfl (by kernel_rfl) (dCells_one _ _ _ _ _) ?_
              intro w8 X8 g8
              have g9 : w7.grownBy w8 (some (w.heap.size + 1)) := ⟨g8.os, g8.tape, g8.output, g8.size, g8.block⟩
              have RV8 := RV7.kept Z7 zD_noText g9
              have B8 := B7.trans (below_of_grown g9 B7.size fun b hb => by injection hb with hb; omega)
              try simp only [Act.put]
              go_wp2_with fail
              exact bodyPost_ret (v := .tuple #[.int .i64 0, .agg (dCells Ak ck A5 c5 sn)]) (results_tmp_row rfl _ _ (w.heap.size + 1) 31 _ (0, 0) _ _ rfl rfl X8 Tryd.underlying31 rfl (by kernel_rfl)) rfl ⟨_, rfl, RV8, B8⟩
            · have hfn : s.fuse = -1 := by omega
              obtain ⟨sn, hsn⟩ : ∃ sn : Dv, (⟨s.size, s.count, s.kept, nw, false, s.offs, s.fuse, s.wr + 1⟩ : Dv) = sn := ⟨_, rfl⟩
              have hs9 : { (s.writes i xs).tick with wr := s.wr + 1 } = sn := by
                rw [← hsn, ← HNW.out]
                unfold Dv.tick Dv.writes
                simp only [if_pos hfn, hoff]
              rw [hs9]
              clear hs9
              have HSN := Lib.hid hsn
              clear hsn hoff hfn
              have b3 : (s.fuse == 0) = false := by simpa using hf0
              have b4 : decide (0 < s.fuse) = false := decide_eq_false hfp
              go_enter Tryd.func13, Tryd.ntmps13
              go_wp2_with (go_at_call 44; (with_reducible refine (GP.out _ (B2.out _ _)).mono ?_); rintro e w5 ⟨v5, rfl, own5, hb5⟩; obtain ⟨A5, c5, rfl, hl5, hm5, hh5⟩ := own5.opened; have X5 := X1.out.below hb5 (by rw [hz2.out]; omega); have Z5 := X2.out.below hb5 (by rw [hz2.out]; omega); have y0 := X5.cell 0; have y1 := X5.cell 1; have y2 := X5.cell 2; have y3 := X5.cell 3; have y4 := X5.cell 4; have y5 := X5.cell 5; have y6 := X5.cell 6; have y7 := X5.cell 7; have q3 := X5.frozen 3; have q6 := X5.frozen 6; have q7 := X5.frozen 7; have B5 := (B2.out _ _).trans (hb5.mono (by rw [hz2.out]; omega)); have HKX := HRD.out w5 B5; have hk5 : HoldsF w5 w5.heap.size Ak s.kept := (HK.out.below B5).more B5.size)
              have X7 : Block ((w5.setCell ⟨w.heap.size, 3, none⟩ (.slice A5 nw.length c5)).setCell ⟨w.heap.size, 7, none⟩ (.int .u64 (s.wr + 1))) w.heap.size 31 (dCells Ak ck A5 c5 (⟨s.size, s.count, s.kept, nw, false, s.offs, s.fuse, s.wr + 1⟩ : Dv)) := ((X5.set_ 3 (.slice A5 nw.length c5)).set_ 7 (.int .u64 (s.wr + 1)))
              have Z7 : Block ((w5.setCell ⟨w.heap.size, 3, none⟩ (.slice A5 nw.length c5)).setCell ⟨w.heap.size, 7, none⟩ (.int .u64 (s.wr + 1))) (w.heap.size + 1) 31 zD := ((Z5.far (p := ⟨w.heap.size, 3, none⟩) (by show w.heap.size + 1 ≠ w.heap.size; omega) (.slice A5 nw.length c5)).far (p := ⟨w.heap.size, 7, none⟩) (by show w.heap.size + 1 ≠ w.heap.size; omega) (.int .u64 (s.wr + 1)))
              have T7 : TurnsIn (fun b => b = w.heap.size) w5 ((w5.setCell ⟨w.heap.size, 3, none⟩ (.slice A5 nw.length c5)).setCell ⟨w.heap.size, 7, none⟩ (.int .u64 (s.wr + 1))) := (((TurnsIn.refl (fun b => b = w.heap.size) w5).setCell (p := ⟨w.heap.size, 3, none⟩) (Or.inl rfl) (.slice A5 nw.length c5)).setCell (p := ⟨w.heap.size, 7, none⟩) (Or.inl rfl) (.int .u64 (s.wr + 1)))
              generalize ((w5.setCell ⟨w.heap.size, 3, none⟩ (.slice A5 nw.length c5)).setCell ⟨w.heap.size, 7, none⟩ (.int .u64 (s.wr + 1))) = w7 at *
              have hr7 := HR.out
              have RV7 : RDv w7 (.agg (dCells Ak ck A5 c5 (⟨s.size, s.count, s.kept, nw, false, s.offs, s.fuse, s.wr + 1⟩ : Dv))) (⟨s.size, s.count, s.kept, nw, false, s.offs, s.fuse, s.wr + 1⟩ : Dv) := RDv.turn (w := w5) (s := (⟨s.size, s.count, s.kept, nw, false, s.offs, s.fuse, s.wr + 1⟩ : Dv)) ⟨Ak, ck, A5, c5, rfl, hk5, hh5, hr7.1, hr7.2.1, hl5, hm5⟩ X5 (noText_list (by intro u hu x; simp only [List.mem_cons, List.not_mem_nil, or_false] at hu; rcases hu with rfl | rfl | rfl | rfl | rfl | rfl | rfl | rfl <;> exact fun e => by cases e)) T7
              rw [HSN.out] at X7 RV7
              have B7 : Below w.heap.size w w7 := B5.trans (T7.toBelow B5.size (fun b hb e => by omega))
              clear X5 Z5 y0 y1 y2 y3 y4 y5 y6 y7 q3 q6 q7 B5 HKX hk5 hh5 T7 hb5 hl5 hm5 own5
              refine wp_region_still_tail 2 (by kernel_rfl) (by kernel_rfl) ?_
              simp only [List.take_succ_cons, List.take_zero, List.drop_succ_cons, List.drop_zero]
              refine wpStill_step (fun K9 hK9 => ?_)
              refine still_load_row (by rfl) 31 _ (by rfl) w.heap.size 0 (by rfl) (dCells Ak ck A5 c5 sn).toList _ (by exact block_range X7) Tryd.underlying31 (by rfl) (by kernel_rfl) ?_
              refine hK9 _ ?_
              clear hK9 K9
              still_step
              refine wpStill_nil ?_
              refine wpList_store_blk (w := w7.drew) (cs := zD) rfl _ _ _ rfl (ds := (dCells Ak ck A5 c5 sn).toList) (by exact Z7) rfl rfl rfl (by kernel_rfl) (dCells_one _ _ _ _ _) ?_
              intro w8 X8 g8
              have g9 : w7.grownBy w8 (some (w.heap.size + 1)) := ⟨g8.os, g8.tape, g8.output, g8.size, g8.block⟩
              have RV8 := RV7.kept Z7 zD_noText g9
              have B8 := B7.trans (below_of_grown g9 B7.size fun b hb => by injection hb with hb; omega)
              try simp only [Act.put]
              go_wp2_with fail
              exact bodyPost_ret (v := .tuple #[.int .i64 0, .agg (dCells Ak ck A5 c5 sn)]) (results_tmp_row rfl _ _ (w.heap.size + 1) 31 _ (0, 0) _ _ rfl rfl X8 Tryd.underlying31 rfl (by kernel_rfl)) rfl ⟨_, rfl, RV8, B8⟩
        · rw [if_pos hlen]
          have b1 : ((xs.length : Int) != (s.size : Int)) = true := by simpa using (fun e : (xs.length : Int) = s.size => hlen (by omega))
          have b2 : ((xs.length : Int) == (s.size : Int)) = false := by simpa using (fun e : (xs.length : Int) = s.size => hlen (by omega))
          clear hk hw hlen
          go_enter Tryd.func13, Tryd.ntmps13
          go_wp2_with fail
          go_region
          all_goals
            go_wp2_with fail
            exact bodyPost_ret (v := .tuple #[.int .i64 3, .agg _]) (results_tmp_row rfl _ _ (w.heap.size + 1) 31 _ (0, 0) _ _ rfl rfl (block_two w _ _ _) Tryd.underlying31 rfl (by kernel_rfl)) rfl ⟨_, rfl, HRD.out _ (BT.out _ _), BT.out _ _⟩
end Go.Proofs.YtpnodocjpedcmaaDoor.Sec
