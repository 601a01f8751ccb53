/-
  Layer 6, the document's device: Back: contract. Conditions: as each theorem names.
-/
import Derived.Test.YtpnodocjpedcmaaDoorMSfF
import Derived.Test.YtpnodocjpedcmaaDoorMGIays6
namespace Go.Proofs.YtpnodocjpedcmaaDoor.Sec
open Go.ChangeShapes Go.WideShapes Go.ChangeAt Go.RowKit Go.Proofs.YtpnodocjpedcmaaDoor.Kit

theorem backK_few {s : Dv} (h : s.Ok) (xs : List Int) (k : Nat) (hk : k ≤ s.waits.length) : (backK s xs k).length ≤ 10000000 := by
  obtain ⟨h1, h2⟩ := backK_ok h xs k hk
  have := up_length (backK s xs k) 0 h1 h2
  have := h.c2
  omega

set_option maxRecDepth 100000 in
set_option maxHeartbeats 6400000 in
theorem rback_any (v : Value) (s : Dv) (A : Option Addr) (xs : List Int) (c : Nat) (w : World) (h : RDv w v s) (hok : s.Ok) (hx : xs.length ≤ 1000000000) (hr : Holds w w.heap.size .u8 A xs) (hof : s.offs ≤ 1000000000) :
    Calls Tryd.prog 15 #[v, .slice A xs.length c] w (GivesD (s.back xs) w) := by
  rw [back_form]
  have hokd := hok.down
  have GF := Lib.hid (fun W (hB : Below w.heap.size w W) => rfall_any v s W (h.below hB) ⟨hok.o1, hof⟩)
  have B2 := Lib.hid (fun o p => below_two w o p)
  have hz2 := Lib.hid (fun o p => show ((w.alloc o).alloc p).heap.size = w.heap.size + 2 by simp)
  obtain ⟨Ak, ck, Aw, cw, rfl, -⟩ := h
  have Z2 := Lib.hid (fun o => block_two w o 31 zD)
  have X2 := Lib.hid ((Block.new w 31 (dCells Ak ck Aw cw s)).alloc (.cells zD 31))
  have HP := Lib.hid (fun W (hB : Below w.heap.size w W) => (hr.below hB).more hB.size)
  clear hr
  unfold zD at Z2 X2
  unfold dCells at GF X2 ⊢
  have HOK := Lib.hid hokd
  have hwf := waits_few hokd
  have HBK := Lib.hid (fun k hk => backK_ok hokd xs k hk)
  have HBF := Lib.hid (fun k hk => backK_few hokd xs k hk)
  have HBN := Lib.hid (fun k => backK_next s.down xs k)
  clear hok hokd
  generalize s.down = sd at *
  go_enter Tryd.func15, Tryd.ntmps15
  go_wp2_with (first
    | (go_at_call 45; (with_reducible refine (GF.out _ (B2.out _ _)).mono ?_); rintro e w7 ⟨v7, rfl, hv7, hb7⟩; have Z7 := (Z2.out _).below hb7 (by rw [hz2.out]; omega); have X7 := X2.out.below hb7 (by rw [hz2.out]; omega); have B7 := (B2.out _ _).trans (hb7.mono (by rw [hz2.out]; omega)); obtain ⟨Ak7, ck7, Aw7, cw7, hve, hr7⟩ := hv7; have RV7 : RDv w7 (.agg (dCells Ak7 ck7 Aw7 cw7 sd)) sd := ⟨Ak7, ck7, Aw7, cw7, rfl, hr7⟩; subst hve)
    | (have _t := X7; refine wpList_store_blk rfl _ _ _ rfl (ds := (dCells Ak7 ck7 Aw7 cw7 sd).toList) X7 rfl rfl rfl (by kernel_rfl) (dCells_one _ _ _ _ _) ?_; clear _t; intro w8 X8 g8; have y3 : w8.cell? ⟨w.heap.size, 3, none⟩ = some (.slice Aw7 sd.waits.length cw7) := X8.cell 3))
  have hgo : RGoing w w8 w.heap.size sd Aw7 cw7 Ak7 ck7 (backK sd xs 0) := by
    refine ⟨X8, Z7.grown g8 (by intro e; injection e with e; omega), hr7.1.kept X7 (noText_lit _ _ _ _ _ _ _ _ (fun _ e => by cases e) (fun _ e => by cases e) (fun _ e => by cases e) (fun _ e => by cases e) (fun _ e => by cases e) (fun _ e => by cases e) (fun _ e => by cases e) (fun _ e => by cases e)) g8, hr7.2.1.kept X7 (noText_lit _ _ _ _ _ _ _ _ (fun _ e => by cases e) (fun _ e => by cases e) (fun _ e => by cases e) (fun _ e => by cases e) (fun _ e => by cases e) (fun _ e => by cases e) (fun _ e => by cases e) (fun _ e => by cases e)) g8, hr7.2.2.1, hr7.2.2.2.1, B7.trans (below_of_grown g8 B7.size fun b hb => by injection hb with hb; omega), Nat.le_refl _⟩
  clear X8 Z7 X7 B7 RV7 hr7 g8 hb7 GF X2 Z2 y3
  try simp only [Act.put, List.setIfInBounds_toArray, List.set_cons_succ, List.set_cons_zero]
  go_loopw [12] (fun i wz => ∃ (k : Nat) (Az : Option Addr) (cz : Nat), k ≤ sd.waits.length ∧ i = .int .i64 k ∧ RGoing w wz w.heap.size sd Aw7 cw7 Az cz (backK sd xs k)) (fun i _ => sd.waits.length - (intOf i).toNat)
  case atStart => exact ⟨0, _, _, Nat.zero_le _, rfl, hgo⟩
  case round =>
    clear hgo
    obtain ⟨k, Az, cz, hk, rfl, hgo⟩ := hrel
    have q2 := hgo.x.cell 2
    have q3 : wr.cell? ⟨w.heap.size, 3, none⟩ = some (.slice Aw7 sd.waits.length cw7) := hgo.x.cell 3
    change wr.cell? ⟨w.heap.size, 2, none⟩ = some (.slice Az (backK sd xs k).length cz) at q2
    have hgl := hgo.x.lt
    by_cases hlt : k < sd.waits.length
    · obtain ⟨b, off, rfl, hb, hc⟩ := hgo.hw (by omega)
      have hp : sd.waits[k]? = some (sd.waits.getD k (0, none)) := by simp [List.getD, List.getElem?_eq_getElem hlt]
      have hc0 : wr.cell? ⟨b, off + k * 3, none⟩ = some (.int .i64 (sd.waits.getD k (0, none)).1) := hc k _ hp 0 _ rfl
      have hcp := Lib.hid (hc k _ hp)
      have hnext := HBN.out k
      have hkf := HBF.out k hk
      have hup := (HBK.out k hk).1
      have hh := hgo.hk
      have hpk := HP.out wr hgo.b
      have d1 : decide ((k : Int) < (sd.waits.length : Int)) = true := decide_eq_true (by omega)
      have d2 : decide (k < sd.waits.length) = true := decide_eq_true hlt
      clear hp hc
      generalize sd.waits.getD k (0, none) = q at *
      have HG := Lib.hid hgo
      clear hgo
      generalize hkn : backK sd xs (k + 1) = kn at *
      have HKN : Hid (backK sd xs (k + 1) = kn) := Lib.hid hkn
      clear hkn
      generalize hlk : backK sd xs k = lk at *
      clear hlk
      unfold backStep at hnext
      by_cases hpl : k < xs.length
      · obtain ⟨bp, op, rfl, _, hcp9⟩ := hpk (by omega)
        have hpick := hcp9 k hpl
        clear hcp9
        generalize xs.getD k 0 = pk at *
        have d3 : decide ((k : Int) < (xs.length : Int)) = true := decide_eq_true (by omega)
        have d4 : decide (k < xs.length) = true := decide_eq_true hpl
        by_cases hp1 : pk = 1
        · rw [if_pos hp1] at hnext
          have b1 : (pk == 1) = true := by simpa using hp1
          have G2 : Hid (∀ W, Below wr.heap.size wr W → Calls Tryd.prog 44 #[.slice Az lk.length cz, .agg #[.int .i64 q.1, .string (strB q.2), .bool q.2.isNone]] W (GivesF (backK sd xs (k + 1)) W)) := Lib.hid (fun W hB => by
            rw [HKN.out, hnext]
            exact put_any Az lk cz q.1 q.2 W hkf hup ((hh.below hB).more hB.size))
          clear hnext hkf hup hh hpk hp1 HKN
          go_wp2_with fail
          refine wp_region_still_tail 7 (by kernel_rfl) (by kernel_rfl) ?_
          simp only [List.take_succ_cons, List.take_zero, List.drop_succ_cons, List.drop_zero]
          still_step
          still_step
          still_step
          still_step
          still_step
          still_step
          refine wpStill_step (fun K9 hK9 => ?_)
          refine still_load_row (by rfl) 95 _ (by rfl) b (off + k * 3) (by rfl) [.int .i64 q.1, .string (strB q.2), .bool q.2.isNone] _ (by exact hcp.out) Tryd.underlying95 (by rfl) (by kernel_rfl) ?_
          refine hK9 _ ?_
          clear hK9 K9
          refine wpStill_nil ?_
          go_wp2_with (go_at_call 44; (refine (G2.out _ (below_draws (Below.refl _ _) 1)).mono ?_); rintro e w5 ⟨v5, rfl, own5, hb5⟩; have hb6 : Below wr.heap.size wr w5 := ⟨hb5.os, hb5.tape, hb5.output, hb5.size, hb5.block⟩; obtain ⟨A5, c5, rfl, hl5, hm5, hh5⟩ := own5.opened; have hnx := Lib.hid (HG.out.next hb6 own5); have X5 := HG.out.x.below hb6 hgl; have y2 := X5.cell 2; have z2 := X5.frozen 2; clear own5 hb5 hb6 hl5 hm5 hh5 X5)
          go_roundw
          case rel => exact ⟨k + 1, A5, c5, hlt, by go_num, hnx.out⟩
          case measure => simp [intOf] <;> omega
        · rw [if_neg hp1] at hnext
          have b1 : (pk == 1) = false := by simpa using hp1
          by_cases hp2 : pk = 2
          · rw [if_pos hp2] at hnext
            have b2 : (pk == 2) = true := by simpa using hp2
            have G2 : Hid (∀ W, Below wr.heap.size wr W → Calls Tryd.prog 44 #[.slice Az lk.length cz, .agg #[.int .i64 q.1, .string ⟨#[]⟩, .bool true]] W (GivesF (backK sd xs (k + 1)) W)) := Lib.hid (fun W hB => by
              rw [HKN.out, hnext]
              exact put_any Az lk cz q.1 none W hkf hup ((hh.below hB).more hB.size))
            clear hnext hkf hup hh hpk hp1 hp2 HKN
            go_wp2_with fail
            refine wp_region_still_tail 9 (by kernel_rfl) (by kernel_rfl) ?_
            simp only [List.take_succ_cons, List.take_zero, List.drop_succ_cons, List.drop_zero]
            still_step
            still_step
            still_step
            still_step
            still_step
            still_step
            still_step
            still_step
            still_step
            refine wpStill_nil ?_
            go_wp2_with (go_at_call 44; (refine (G2.out _ (below_draws (Below.refl _ _) 1)).mono ?_); rintro e w5 ⟨v5, rfl, own5, hb5⟩; have hb6 : Below wr.heap.size wr w5 := ⟨hb5.os, hb5.tape, hb5.output, hb5.size, hb5.block⟩; obtain ⟨A5, c5, rfl, hl5, hm5, hh5⟩ := own5.opened; have hnx := Lib.hid (HG.out.next hb6 own5); have X5 := HG.out.x.below hb6 hgl; have y2 := X5.cell 2; have z2 := X5.frozen 2; clear own5 hb5 hb6 hl5 hm5 hh5 X5)
            go_roundw
            case rel => exact ⟨k + 1, A5, c5, hlt, by go_num, hnx.out⟩
            case measure => simp [intOf] <;> omega
          · rw [if_neg hp2] at hnext
            have b2 : (pk == 2) = false := by simpa using hp2
            have hnx : Hid (RGoing w wr w.heap.size sd (some ⟨b, off, none⟩) cw7 Az cz (backK sd xs (k + 1))) := Lib.hid (by rw [HKN.out, hnext]; exact HG.out)
            clear hnext hkf hup hh hpk hp1 hp2 HKN HG
            go_wp2_with fail
            go_roundw
            case rel => exact ⟨k + 1, Az, cz, hlt, by go_num, hnx.out⟩
            case measure => simp [intOf] <;> omega
      · have hp0 : xs.getD k 0 = 0 := by simp [List.getD, List.getElem?_eq_none (by omega : xs.length ≤ k)]
        rw [hp0, if_neg (by decide), if_neg (by decide)] at hnext
        have d3 : decide ((k : Int) < (xs.length : Int)) = false := decide_eq_false (by omega)
        have d4 : decide (k < xs.length) = false := decide_eq_false hpl
        have hnx : Hid (RGoing w wr w.heap.size sd (some ⟨b, off, none⟩) cw7 Az cz (backK sd xs (k + 1))) := Lib.hid (by rw [HKN.out, hnext]; exact HG.out)
        clear hnext hkf hup hh hpk hp0 HKN HG
        go_wp2_with fail
        go_roundw
        case rel => exact ⟨k + 1, Az, cz, hlt, by go_num, hnx.out⟩
        case measure => simp [intOf] <;> omega
    · obtain rfl : k = sd.waits.length := by omega
      have d1 : decide ((sd.waits.length : Int) < (sd.waits.length : Int)) = false := decide_eq_false (by omega)
      have d2 : decide (sd.waits.length < sd.waits.length) = false := decide_eq_false (by omega)
      have y4 : wr.cell? ⟨w.heap.size, 4, none⟩ = some (.bool sd.off) := hgo.x.cell 4
      have y6 : wr.cell? ⟨w.heap.size, 6, none⟩ = some (.int .i64 sd.fuse) := hgo.x.cell 6
      have z3 := hgo.x.frozen 3
      have z4 := hgo.x.frozen 4
      have z6 := hgo.x.frozen 6
      obtain ⟨sn, hsn⟩ : ∃ sn : Dv, { sd with kept := backK sd xs sd.waits.length, waits := [], fuse := -1, off := false } = sn := ⟨_, rfl⟩
      have Ta : TurnsIn (fun b => b = w.heap.size) wr (((wr.setCell ⟨w.heap.size, 3, none⟩ (.slice (some ⟨wr.heap.size, 0, none⟩) 0 0)).setCell ⟨w.heap.size, 6, none⟩ (.int .i64 (-1))).setCell ⟨w.heap.size, 4, none⟩ (.bool false)) := TurnsIn.setCell (S := fun b => b = w.heap.size) (p := ⟨w.heap.size, 4, none⟩) (TurnsIn.setCell (S := fun b => b = w.heap.size) (p := ⟨w.heap.size, 6, none⟩) (TurnsIn.setCell (S := fun b => b = w.heap.size) (p := ⟨w.heap.size, 3, none⟩) (TurnsIn.refl _ _) (Or.inl rfl) _) (Or.inl rfl) _) (Or.inl rfl) _
      have Xa : Block (((wr.setCell ⟨w.heap.size, 3, none⟩ (.slice (some ⟨wr.heap.size, 0, none⟩) 0 0)).setCell ⟨w.heap.size, 6, none⟩ (.int .i64 (-1))).setCell ⟨w.heap.size, 4, none⟩ (.bool false)) w.heap.size 31 (dCells Az cz (some ⟨wr.heap.size, 0, none⟩) 0 { sd with kept := backK sd xs sd.waits.length, waits := [], fuse := -1, off := false }) := ((hgo.x.set_ 3 _).set_ 6 _).set_ 4 _
      have Ba : Below (((wr.setCell ⟨w.heap.size, 3, none⟩ (.slice (some ⟨wr.heap.size, 0, none⟩) 0 0)).setCell ⟨w.heap.size, 6, none⟩ (.int .i64 (-1))).setCell ⟨w.heap.size, 4, none⟩ (.bool false)).heap.size (((wr.setCell ⟨w.heap.size, 3, none⟩ (.slice (some ⟨wr.heap.size, 0, none⟩) 0 0)).setCell ⟨w.heap.size, 6, none⟩ (.int .i64 (-1))).setCell ⟨w.heap.size, 4, none⟩ (.bool false)) ((((wr.setCell ⟨w.heap.size, 3, none⟩ (.slice (some ⟨wr.heap.size, 0, none⟩) 0 0)).setCell ⟨w.heap.size, 6, none⟩ (.int .i64 (-1))).setCell ⟨w.heap.size, 4, none⟩ (.bool false)).alloc (.cells #[] 95)) := (Below.refl _ _).alloc (Nat.le_refl _) _
      have X7 : Block ((((wr.setCell ⟨w.heap.size, 3, none⟩ (.slice (some ⟨wr.heap.size, 0, none⟩) 0 0)).setCell ⟨w.heap.size, 6, none⟩ (.int .i64 (-1))).setCell ⟨w.heap.size, 4, none⟩ (.bool false)).alloc (.cells #[] 95)) w.heap.size 31 (dCells Az cz (some ⟨wr.heap.size, 0, none⟩) 0 { sd with kept := backK sd xs sd.waits.length, waits := [], fuse := -1, off := false }) := Xa.alloc _
      have Z7 : Block ((((wr.setCell ⟨w.heap.size, 3, none⟩ (.slice (some ⟨wr.heap.size, 0, none⟩) 0 0)).setCell ⟨w.heap.size, 6, none⟩ (.int .i64 (-1))).setCell ⟨w.heap.size, 4, none⟩ (.bool false)).alloc (.cells #[] 95)) (w.heap.size + 1) 31 zD := (((hgo.z.far (p := ⟨w.heap.size, 3, none⟩) (by show w.heap.size + 1 ≠ w.heap.size; omega) _).far (p := ⟨w.heap.size, 6, none⟩) (by show w.heap.size + 1 ≠ w.heap.size; omega) _).far (p := ⟨w.heap.size, 4, none⟩) (by show w.heap.size + 1 ≠ w.heap.size; omega) _).alloc _
      have hk7 := ((hgo.hk.turn hgo.x (dCells_noText _ _ _ _ _) Ta).below Ba).more Ba.size
      have RV7 : RDv ((((wr.setCell ⟨w.heap.size, 3, none⟩ (.slice (some ⟨wr.heap.size, 0, none⟩) 0 0)).setCell ⟨w.heap.size, 6, none⟩ (.int .i64 (-1))).setCell ⟨w.heap.size, 4, none⟩ (.bool false)).alloc (.cells #[] 95)) (.agg (dCells Az cz (some ⟨wr.heap.size, 0, none⟩) 0 { sd with kept := backK sd xs sd.waits.length, waits := [], fuse := -1, off := false })) { sd with kept := backK sd xs sd.waits.length, waits := [], fuse := -1, off := false } := ⟨Az, cz, _, 0, rfl, hk7, HoldsF.nil, hgo.l1, hgo.l2, Nat.le_refl _, Nat.zero_le _⟩
      have B6 := hgo.b.trans (Ta.toBelow hgo.b.size (fun b hb e => by omega))
      have B7 := B6.trans (Ba.mono B6.size)
      rw [hsn] at X7 RV7
      have HSN := Lib.hid hsn
      clear Xa Ta Ba hk7 hgo B6 hsn
      go_wp2_with (first
        | (have _t := Z7; refine wpList_load_midV (by rfl) _ _ rfl w.heap.size 0 rfl (dCells Az cz (some ⟨wr.heap.size, 0, none⟩) 0 sn).toList (block_range X7) Tryd.underlying31 rfl (by kernel_rfl) ?_)
        | (have _t := Z7; refine wpList_store_blk (cs := zD) rfl _ _ _ rfl (ds := (dCells Az cz (some ⟨wr.heap.size, 0, none⟩) 0 sn).toList) Z7 rfl rfl rfl (by kernel_rfl) (dCells_one _ _ _ _ _) ?_; clear _t; intro w8 X8 g8))
      try simp only [Act.put]
      exact bodyPost_ret (v := .agg (dCells Az cz (some ⟨wr.heap.size, 0, none⟩) 0 sn)) (results_cell_row rfl _ _ (w.heap.size + 1) 31 _ (0, 0) _ rfl X8 Tryd.underlying31 rfl (by kernel_rfl)) rfl ⟨_, rfl, by rw [HSN.out]; exact RV7.kept Z7 zD_noText g8, B7.trans (below_of_grown g8 B7.size fun b hb => by injection hb with hb; omega)⟩
end Go.Proofs.YtpnodocjpedcmaaDoor.Sec
