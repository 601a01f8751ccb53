/-
  Layer 6, the document's device: Sync: contract. Conditions: as each theorem names.
-/
import Derived.Test.YtpnodocjpedcmaaDoorMSfE
import Derived.Test.YtpnodocjpedcmaaDoorMGIays3
namespace Go.Proofs.YtpnodocjpedcmaaDoor.Sec
open Go.ChangeShapes Go.WideShapes Go.ChangeAt Go.RowKit Go.Proofs.YtpnodocjpedcmaaDoor.Kit

/-- What is kept behind k rounds. -/
def keptK (s : Dv) (k : Nat) : Sl := merge s.kept (s.waits.take k)
theorem keptK_next (s : Dv) (k : Nat) (h : k < s.waits.length) : keptK s (k + 1) = putS (keptK s k) (s.waits.getD k (0, none)).1 (s.waits.getD k (0, none)).2 := by
  unfold keptK merge
  rw [List.take_succ_eq_append_getElem h, List.foldl_append]
  simp [List.getD, List.getElem?_eq_getElem h]
theorem keptK_few {s : Dv} (h : s.Ok) (k : Nat) : (keptK s k).length ≤ 10000000 := by
  have h1 := up_length (c := s.count) (keptK s k) 0 (merge_up h.ku) (fun p hp => by
    rcases mem_merge hp with hp | hp
    · exact h.kr p hp
    · exact h.wr_ p (List.mem_of_mem_take hp))
  have := h.c2
  omega
/-- The document's device lies in g, behind k rounds. -/
structure RGoing (w0 w : World) (g : Nat) (s : Dv) (Aw : Option Addr) (cw : Nat) (Ak : Option Addr) (ck : Nat) (l : Sl) : Prop where
  x : Block w g 31 (dCells Ak ck Aw cw { s with kept := l })
  z : Block w (g + 1) 31 zD
  hk : HoldsF w w.heap.size Ak l
  hw : HoldsF w w.heap.size Aw s.waits
  l1 : l.length ≤ ck
  l2 : ck ≤ maxLen
  b : Below w0.heap.size w0 w
  gb : w0.heap.size ≤ g

theorem noText_lit (a b c d e f g h : Value) (h1 : ∀ x, a ≠ .string x) (h2 : ∀ x, b ≠ .string x) (h3 : ∀ x, c ≠ .string x) (h4 : ∀ x, d ≠ .string x) (h5 : ∀ x, e ≠ .string x) (h6 : ∀ x, f ≠ .string x) (h7 : ∀ x, g ≠ .string x) (h8 : ∀ x, h ≠ .string x) : NoText #[a, b, c, d, e, f, g, h] := noText_list (by
  intro u hu x
  simp only [List.mem_cons, List.not_mem_nil, or_false] at hu
  rcases hu with rfl | rfl | rfl | rfl | rfl | rfl | rfl | rfl
  · exact h1 x
  · exact h2 x
  · exact h3 x
  · exact h4 x
  · exact h5 x
  · exact h6 x
  · exact h7 x
  · exact h8 x)

/-- What waits next is put. -/
theorem RGoing.next {w0 w w5 : World} {g : Nat} {s : Dv} {Aw : Option Addr} {cw : Nat} {Ak : Option Addr} {ck : Nat} {l l2 : Sl} (h : RGoing w0 w g s Aw cw Ak ck l) (hb : Below w.heap.size w w5) {B : Nat} {A5 : Option Addr} {c5 : Nat} (own : OwnF w5 B (.slice A5 l2.length c5) l2) :
    RGoing w0 (w5.setCell ⟨g, 2, none⟩ (.slice A5 l2.length c5)) g s Aw cw A5 c5 l2 := by
  have X5 := h.x.below hb h.x.lt
  have t : TurnsIn (fun b => b = g) w5 (w5.setCell ⟨g, 2, none⟩ (.slice A5 l2.length c5)) := TurnsIn.setCell (S := fun b => b = g) (p := ⟨g, 2, none⟩) (TurnsIn.refl _ w5) (Or.inl rfl) _
  obtain ⟨A6, c6, he, hl, hm, hh⟩ := own.opened
  injection he with e1 e2 e3
  subst e1 e3
  have hs := hb.size
  have hg := h.x.lt
  exact ⟨X5.set_ 2 (.slice A5 l2.length c5), (h.z.below hb h.z.lt).far (by show g + 1 ≠ g; omega) _, hh.turn X5 (dCells_noText _ _ _ _ _) t, ((h.hw.below hb).more hs).turn X5 (dCells_noText _ _ _ _ _) t, hl, hm,
    (h.b.trans (hb.mono h.b.size)).trans (t.toBelow (Nat.le_trans h.b.size hs) (fun b hb e => by have := h.gb; omega)), h.gb⟩

set_option maxRecDepth 100000 in
set_option maxHeartbeats 6400000 in
theorem rsync_any (v : Value) (s : Dv) (w : World) (h : RDv w v s) (hok : s.Ok) (hof : s.offs ≤ 1000000000) :
    Calls Tryd.prog 63 #[v] w (GivesED s.sync.1 s.sync.2 w) := by
  have h0 := Lib.hid h
  have hO := Lib.hid hok
  have ho1 := hok.o1
  have hf1 := hok.f1
  have hf2 := hok.f2
  have hfew := waits_few hok
  clear hok
  obtain ⟨Ak, ck, Aw, cw, rfl, hk, hw, r⟩ := h
  have BT := Lib.hid (fun o p => (below_draws (below_two w o p) 1 : Below w.heap.size w ((w.alloc o).alloc p).drew))
  have B2 := Lib.hid (fun o p => below_two w o p)
  have hz2 := Lib.hid (fun o p => show ((w.alloc o).alloc p).heap.size = w.heap.size + 2 by simp)
  have HR := Lib.hid r
  have HK := Lib.hid hk
  have HW := Lib.hid hw
  clear r hk hw
  unfold dCells at h0 ⊢
  unfold Dv.sync
  have HRD := Lib.hid (fun W (hB : Below w.heap.size w W) => h0.out.below hB)
  cases hoff : s.off with
  | true =>
    rw [if_pos rfl]
    rw [hoff] at HRD
    go_enter Tryd.func63, Tryd.ntmps63
    go_wp2_with fail
    go_region
    all_goals
      go_wp2_with fail
      exact bodyPost_ret (v := .tuple #[.int .i64 8, .agg _]) (results_tmp_row rfl _ _ (w.heap.size + 1) 31 _ (0, 0) _ _ rfl rfl (block_two w _ _ _) Tryd.underlying31 rfl (by kernel_rfl)) rfl ⟨_, rfl, HRD.out _ (BT.out _ _), BT.out _ _⟩
  | false =>
    rw [if_neg (by decide)]
    by_cases hf0 : s.fuse = 0
    · rw [if_pos hf0]
      have hs9 : s.tick = s.down := by
        unfold Dv.tick
        rw [if_neg (by omega), if_pos hf0]
      rw [hs9]
      clear hs9
      have GF := Lib.hid (fun W (hB : Below w.heap.size w W) => rfall_any _ s W (HRD.out W hB) ⟨ho1, hof⟩)
      rw [hoff] at GF
      have Z2 := Lib.hid (fun o => block_two w o 31 zD)
      unfold zD at Z2
      generalize s.down = sd at *
      have b3 : (s.fuse == 0) = true := by simpa using hf0
      clear hf0 hoff HRD
      go_enter Tryd.func63, Tryd.ntmps63
      go_wp2_with (first
        | (go_at_call 45; (with_reducible refine (GF.out _ (B2.out _ _)).mono ?_); rintro e w7 ⟨v7, rfl, hv7, hb7⟩; have Z7 := (Z2.out _).below hb7 (by rw [hz2.out]; omega); have B7 := (B2.out _ _).trans (hb7.mono (by rw [hz2.out]; omega)); obtain ⟨Ak7, ck7, Aw7, cw7, hve, hr7⟩ := hv7; have RV7 : RDv w7 (.agg (dCells Ak7 ck7 Aw7 cw7 sd)) sd := ⟨Ak7, ck7, Aw7, cw7, rfl, hr7⟩; subst hve)
        | (have _t := Z7; refine wpList_store_blk (cs := zD) rfl _ _ _ rfl (ds := (dCells Ak7 ck7 Aw7 cw7 sd).toList) (by exact Z7) rfl rfl rfl (by kernel_rfl) (dCells_one _ _ _ _ _) ?_; clear _t; intro w8 X8 g8))
      try simp only [Act.put]
      exact bodyPost_ret (v := .tuple #[.int .i64 8, .agg (dCells Ak7 ck7 Aw7 cw7 sd)]) (results_tmp_row rfl _ _ (w.heap.size + 1) 31 _ (0, 0) _ _ rfl rfl X8 Tryd.underlying31 rfl (by kernel_rfl)) rfl ⟨_, rfl, RV7.kept (cs := zD) Z7 zD_noText g8, B7.trans (below_of_grown g8 B7.size fun b hb => by injection hb with hb; omega)⟩
    · rw [if_neg hf0]
      clear HRD
      have b3 : (s.fuse == 0) = false := by simpa using hf0
      by_cases hfp : 0 < s.fuse
      · have b4 : decide (0 < s.fuse) = true := decide_eq_true hfp
        obtain ⟨sm, hsm⟩ : ∃ sm : Dv, (⟨s.size, s.count, s.kept, s.waits, false, s.offs, s.fuse - 1, s.wr⟩ : Dv) = sm := ⟨_, rfl⟩
        have hs9 : s.tick = sm := by
          rw [← hsm]
          unfold Dv.tick
          rw [if_neg (by omega), if_neg hf0, hoff]
        have hokm : sm.Ok := by rw [← hs9]; exact hO.out.tick
        rw [hs9]
        clear hs9
        have HSM := Lib.hid hsm
        have hwm : sm.waits.length = s.waits.length := by rw [← hsm]
        have HWM := Lib.hid hwm
        have hst : ∀ W, W = ((w.alloc (.cells #[.int .i64 s.size, .int .i64 s.count, .slice Ak s.kept.length ck, .slice Aw s.waits.length cw, .bool false, .int .i64 s.offs, .int .i64 (s.fuse - 1), .int .u64 s.wr] 31)).alloc (.cells #[.int .i64 0, .int .i64 0, .slice none 0 0, .slice none 0 0, .bool false, .int .i64 0, .int .i64 0, .int .u64 0] 31)) → RGoing w W w.heap.size sm Aw cw Ak ck (keptK sm 0) := by
          rintro W rfl
          rw [← hsm]
          have hb9 := B2.out (.cells #[.int .i64 s.size, .int .i64 s.count, .slice Ak s.kept.length ck, .slice Aw s.waits.length cw, .bool false, .int .i64 s.offs, .int .i64 (s.fuse - 1), .int .u64 s.wr] 31) (.cells #[.int .i64 0, .int .i64 0, .slice none 0 0, .slice none 0 0, .bool false, .int .i64 0, .int .i64 0, .int .u64 0] 31)
          exact ⟨(Block.new w _ _).alloc _, block_two w _ _ _, (HK.out.below hb9).more hb9.size, (HW.out.below hb9).more hb9.size, HR.out.1, HR.out.2.1, hb9, Nat.le_refl _⟩
        have HST := Lib.hid hst
        have HKN := Lib.hid (fun k h => keptK_next sm k h)
        have HKF := Lib.hid (fun k => keptK_few hokm k)
        have HKU := Lib.hid (fun k => (merge_up hokm.ku : Up (keptK sm k)))
        have HOM := Lib.hid hokm
        clear hsm hst hokm hwm hoff hf0
        go_enter Tryd.func63, Tryd.ntmps63
        go_wp2_with fail
        have hgo := HST.out _ rfl
        go_loopw [23] (fun i wz => ∃ (k : Nat) (Az : Option Addr) (cz : Nat), k ≤ s.waits.length ∧ i = .int .i64 k ∧ RGoing w wz w.heap.size sm Aw cw Az cz (keptK sm k)) (fun i _ => s.waits.length - (intOf i).toNat)
        case atStart => exact ⟨0, Ak, ck, Nat.zero_le _, rfl, hgo⟩
        case round =>
          clear hgo
          obtain ⟨k, Az, cz, hk, rfl, hgo⟩ := hrel
          have HWM' := HWM.out
          have q2 := hgo.x.cell 2
          have q3 : wr.cell? ⟨w.heap.size, 3, none⟩ = some (.slice Aw s.waits.length cw) := by rw [← HWM']; exact hgo.x.cell 3
          change wr.cell? ⟨w.heap.size, 2, none⟩ = some (.slice Az (keptK sm k).length cz) at q2
          have hgl := hgo.x.lt
          by_cases hlt : k < s.waits.length
          · obtain ⟨b, off, rfl, hb, hc⟩ := hgo.hw (by omega)
            have hp : sm.waits[k]? = some (sm.waits.getD k (0, none)) := by simp [List.getD, List.getElem?_eq_getElem (show k < sm.waits.length by omega)]
            have hcp := Lib.hid (hc k _ hp)
            have hnk := Lib.hid (HKN.out k (by omega))
            have GP := Lib.hid (fun W (hB : Below wr.heap.size wr W) => put_any Az (keptK sm k) cz (sm.waits.getD k (0, none)).1 (sm.waits.getD k (0, none)).2 W (HKF.out k) (HKU.out k) ((hgo.hk.below hB).more hB.size))
            rw [← hnk.out] at GP
            have d1 : decide ((k : Int) < (s.waits.length : Int)) = true := decide_eq_true (by omega)
            have d2 : decide (k < s.waits.length) = true := decide_eq_true hlt
            clear hp hc HWM' HKN HKF HKU HST
            generalize sm.waits.getD k (0, none) = p at *
            have HG := Lib.hid hgo
            clear hgo
            generalize hlk : keptK sm k = lk at *
            have HLK := Lib.hid hlk
            clear hlk
            have G2 : Hid (∀ W, Below wr.heap.size wr W → Calls Tryd.prog 44 #[.slice Az lk.length cz, .agg #[.int .i64 p.1, .string (strB p.2), .bool p.2.isNone]] W (GivesF (keptK sm (k + 1)) W)) := Lib.hid (fun W hB => GP.out W hB)
            clear GP
            go_wp2_with fail
            refine wp_region_still_tail 7 (by kernel_rfl) (by kernel_rfl) ?_
            simp only [List.take_succ_cons, List.take_zero, List.drop_succ_cons, List.drop_zero]
            still_step
            still_step
            still_step
            still_step
            still_step
            still_step
            refine wpStill_step (fun K9 hK9 => ?_)
            refine still_load_row (by rfl) 95 _ (by rfl) b (off + k * 3) (by rfl) [.int .i64 p.1, .string (strB p.2), .bool p.2.isNone] _ (by exact hcp.out) Tryd.underlying95 (by rfl) (by kernel_rfl) ?_
            refine hK9 _ ?_
            clear hK9 K9
            refine wpStill_nil ?_
            go_wp2_with (go_at_call 44; (refine (G2.out _ (below_draws (Below.refl _ _) 1)).mono ?_); rintro e w5 ⟨v5, rfl, own5, hb5⟩; have hb6 : Below wr.heap.size wr w5 := ⟨hb5.os, hb5.tape, hb5.output, hb5.size, hb5.block⟩; obtain ⟨A5, c5, rfl, hl5, hm5, hh5⟩ := own5.opened; have hnx := Lib.hid (HG.out.next hb6 own5); have X5 := HG.out.x.below hb6 hgl; have y2 := X5.cell 2; have z2 := X5.frozen 2; clear own5 hb5 hb6 hl5 hm5 hh5 X5)
            go_roundw
            case rel => exact ⟨k + 1, A5, c5, hlt, by go_num, hnx.out⟩
            case measure => simp [intOf] <;> omega
          · obtain rfl : k = s.waits.length := by omega
            have d1 : decide ((s.waits.length : Int) < (s.waits.length : Int)) = false := decide_eq_false (by omega)
            have d2 : decide (s.waits.length < s.waits.length) = false := decide_eq_false (by omega)
            have hfl : keptK sm s.waits.length = merge sm.kept sm.waits := by rw [← HWM']; unfold keptK; rw [List.take_length]
            rw [hfl] at hgo q2
            have z3 := hgo.x.frozen 3
            have HG := Lib.hid hgo
            clear hgo hfl HWM'
            go_wp2_with fail
            have hgo := HG.out
            have Ta : TurnsIn (fun b => b = w.heap.size) wr (wr.setCell ⟨w.heap.size, 3, none⟩ (.slice (some ⟨wr.heap.size, 0, none⟩) 0 0)) := TurnsIn.setCell (S := fun b => b = w.heap.size) (p := ⟨w.heap.size, 3, none⟩) (TurnsIn.refl _ _) (Or.inl rfl) _
            have Xa : Block (wr.setCell ⟨w.heap.size, 3, none⟩ (.slice (some ⟨wr.heap.size, 0, none⟩) 0 0)) w.heap.size 31 (dCells Az cz (some ⟨wr.heap.size, 0, none⟩) 0 sm.flush) := hgo.x.set_ 3 _
            have Ba : Below (wr.setCell ⟨w.heap.size, 3, none⟩ (.slice (some ⟨wr.heap.size, 0, none⟩) 0 0)).heap.size (wr.setCell ⟨w.heap.size, 3, none⟩ (.slice (some ⟨wr.heap.size, 0, none⟩) 0 0)) ((wr.setCell ⟨w.heap.size, 3, none⟩ (.slice (some ⟨wr.heap.size, 0, none⟩) 0 0)).alloc (.cells #[] 95)) := (Below.refl _ _).alloc (Nat.le_refl _) _
            have X7 : Block ((wr.setCell ⟨w.heap.size, 3, none⟩ (.slice (some ⟨wr.heap.size, 0, none⟩) 0 0)).alloc (.cells #[] 95)) w.heap.size 31 (dCells Az cz (some ⟨wr.heap.size, 0, none⟩) 0 sm.flush) := Xa.alloc _
            have Z7 : Block ((wr.setCell ⟨w.heap.size, 3, none⟩ (.slice (some ⟨wr.heap.size, 0, none⟩) 0 0)).alloc (.cells #[] 95)) (w.heap.size + 1) 31 zD := (hgo.z.far (p := ⟨w.heap.size, 3, none⟩) (by show w.heap.size + 1 ≠ w.heap.size; omega) _).alloc _
            have hk7 := ((hgo.hk.turn hgo.x (dCells_noText _ _ _ _ _) Ta).below Ba).more Ba.size
            have RV7 : RDv ((wr.setCell ⟨w.heap.size, 3, none⟩ (.slice (some ⟨wr.heap.size, 0, none⟩) 0 0)).alloc (.cells #[] 95)) (.agg (dCells Az cz (some ⟨wr.heap.size, 0, none⟩) 0 sm.flush)) sm.flush := ⟨Az, cz, _, 0, rfl, hk7, HoldsF.nil, hgo.l1, hgo.l2, Nat.le_refl _, Nat.zero_le _⟩
            have B6 := hgo.b.trans (Ta.toBelow hgo.b.size (fun b hb e => by omega))
            have B7 := B6.trans (Ba.mono B6.size)
            generalize ((wr.setCell ⟨w.heap.size, 3, none⟩ (.slice (some ⟨wr.heap.size, 0, none⟩) 0 0)).alloc (.cells #[] 95)) = w7 at *
            clear Xa Ta Ba hk7 hgo HG q2 q3 z3 hgl B6
            generalize sm.flush = sn at *
            refine wp_region_still_tail 2 (by kernel_rfl) (by kernel_rfl) ?_
            simp only [List.take_succ_cons, List.take_zero, List.drop_succ_cons, List.drop_zero]
            refine wpStill_step (fun K9 hK9 => ?_)
            refine still_load_row (by rfl) 31 _ (by rfl) w.heap.size 0 (by rfl) (dCells Az cz (some ⟨wr.heap.size, 0, none⟩) 0 sn).toList _ (by exact block_range X7) Tryd.underlying31 (by rfl) (by kernel_rfl) ?_
            refine hK9 _ ?_
            clear hK9 K9
            still_step
            refine wpStill_nil ?_
            refine wpList_store_blk (w := w7.drew) (cs := zD) rfl _ _ _ rfl (ds := (dCells Az cz (some ⟨wr.heap.size, 0, none⟩) 0 sn).toList) (by exact Z7) rfl rfl rfl (by kernel_rfl) (dCells_one _ _ _ _ _) ?_
            intro w8 X8 g8
            have g9 : w7.grownBy w8 (some (w.heap.size + 1)) := ⟨g8.os, g8.tape, g8.output, g8.size, g8.block⟩
            try simp only [Act.put]
            go_wp2_with fail
            exact bodyPost_ret (v := .tuple #[.int .i64 0, .agg (dCells Az cz (some ⟨wr.heap.size, 0, none⟩) 0 sn)]) (results_tmp_row rfl _ _ (w.heap.size + 1) 31 _ (0, 0) _ _ rfl rfl X8 Tryd.underlying31 rfl (by kernel_rfl)) rfl ⟨_, rfl, RV7.kept Z7 zD_noText g9, B7.trans (below_of_grown g9 B7.size fun b hb => by injection hb with hb; omega)⟩
      · have b4 : decide (0 < s.fuse) = false := decide_eq_false hfp
        obtain ⟨sm, hsm⟩ : ∃ sm : Dv, (⟨s.size, s.count, s.kept, s.waits, false, s.offs, s.fuse, s.wr⟩ : Dv) = sm := ⟨_, rfl⟩
        have hs9 : s.tick = sm := by
          rw [← hsm]
          unfold Dv.tick
          rw [if_pos (by omega)]
          cases s
          simp only at hoff
          rw [hoff]
        have hokm : sm.Ok := by rw [← hs9]; exact hO.out.tick
        rw [hs9]
        clear hs9
        have HSM := Lib.hid hsm
        have hwm : sm.waits.length = s.waits.length := by rw [← hsm]
        have HWM := Lib.hid hwm
        have hst : ∀ W, W = ((w.alloc (.cells #[.int .i64 s.size, .int .i64 s.count, .slice Ak s.kept.length ck, .slice Aw s.waits.length cw, .bool false, .int .i64 s.offs, .int .i64 s.fuse, .int .u64 s.wr] 31)).alloc (.cells #[.int .i64 0, .int .i64 0, .slice none 0 0, .slice none 0 0, .bool false, .int .i64 0, .int .i64 0, .int .u64 0] 31)) → RGoing w W w.heap.size sm Aw cw Ak ck (keptK sm 0) := by
          rintro W rfl
          rw [← hsm]
          have hb9 := B2.out (.cells #[.int .i64 s.size, .int .i64 s.count, .slice Ak s.kept.length ck, .slice Aw s.waits.length cw, .bool false, .int .i64 s.offs, .int .i64 s.fuse, .int .u64 s.wr] 31) (.cells #[.int .i64 0, .int .i64 0, .slice none 0 0, .slice none 0 0, .bool false, .int .i64 0, .int .i64 0, .int .u64 0] 31)
          exact ⟨(Block.new w _ _).alloc _, block_two w _ _ _, (HK.out.below hb9).more hb9.size, (HW.out.below hb9).more hb9.size, HR.out.1, HR.out.2.1, hb9, Nat.le_refl _⟩
        have HST := Lib.hid hst
        have HKN := Lib.hid (fun k h => keptK_next sm k h)
        have HKF := Lib.hid (fun k => keptK_few hokm k)
        have HKU := Lib.hid (fun k => (merge_up hokm.ku : Up (keptK sm k)))
        have HOM := Lib.hid hokm
        clear hsm hst hokm hwm hoff hf0
        go_enter Tryd.func63, Tryd.ntmps63
        go_wp2_with fail
        have hgo := HST.out _ rfl
        go_loopw [23] (fun i wz => ∃ (k : Nat) (Az : Option Addr) (cz : Nat), k ≤ s.waits.length ∧ i = .int .i64 k ∧ RGoing w wz w.heap.size sm Aw cw Az cz (keptK sm k)) (fun i _ => s.waits.length - (intOf i).toNat)
        case atStart => exact ⟨0, Ak, ck, Nat.zero_le _, rfl, hgo⟩
        case round =>
          clear hgo
          obtain ⟨k, Az, cz, hk, rfl, hgo⟩ := hrel
          have HWM' := HWM.out
          have q2 := hgo.x.cell 2
          have q3 : wr.cell? ⟨w.heap.size, 3, none⟩ = some (.slice Aw s.waits.length cw) := by rw [← HWM']; exact hgo.x.cell 3
          change wr.cell? ⟨w.heap.size, 2, none⟩ = some (.slice Az (keptK sm k).length cz) at q2
          have hgl := hgo.x.lt
          by_cases hlt : k < s.waits.length
          · obtain ⟨b, off, rfl, hb, hc⟩ := hgo.hw (by omega)
            have hp : sm.waits[k]? = some (sm.waits.getD k (0, none)) := by simp [List.getD, List.getElem?_eq_getElem (show k < sm.waits.length by omega)]
            have hcp := Lib.hid (hc k _ hp)
            have hnk := Lib.hid (HKN.out k (by omega))
            have GP := Lib.hid (fun W (hB : Below wr.heap.size wr W) => put_any Az (keptK sm k) cz (sm.waits.getD k (0, none)).1 (sm.waits.getD k (0, none)).2 W (HKF.out k) (HKU.out k) ((hgo.hk.below hB).more hB.size))
            rw [← hnk.out] at GP
            have d1 : decide ((k : Int) < (s.waits.length : Int)) = true := decide_eq_true (by omega)
            have d2 : decide (k < s.waits.length) = true := decide_eq_true hlt
            clear hp hc HWM' HKN HKF HKU HST
            generalize sm.waits.getD k (0, none) = p at *
            have HG := Lib.hid hgo
            clear hgo
            generalize hlk : keptK sm k = lk at *
            have HLK := Lib.hid hlk
            clear hlk
            have G2 : Hid (∀ W, Below wr.heap.size wr W → Calls Tryd.prog 44 #[.slice Az lk.length cz, .agg #[.int .i64 p.1, .string (strB p.2), .bool p.2.isNone]] W (GivesF (keptK sm (k + 1)) W)) := Lib.hid (fun W hB => GP.out W hB)
            clear GP
            go_wp2_with fail
            refine wp_region_still_tail 7 (by kernel_rfl) (by kernel_rfl) ?_
            simp only [List.take_succ_cons, List.take_zero, List.drop_succ_cons, List.drop_zero]
            still_step
            still_step
            still_step
            still_step
            still_step
            still_step
            refine wpStill_step (fun K9 hK9 => ?_)
            refine still_load_row (by rfl) 95 _ (by rfl) b (off + k * 3) (by rfl) [.int .i64 p.1, .string (strB p.2), .bool p.2.isNone] _ (by exact hcp.out) Tryd.underlying95 (by rfl) (by kernel_rfl) ?_
            refine hK9 _ ?_
            clear hK9 K9
            refine wpStill_nil ?_
            go_wp2_with (go_at_call 44; (refine (G2.out _ (below_draws (Below.refl _ _) 1)).mono ?_); rintro e w5 ⟨v5, rfl, own5, hb5⟩; have hb6 : Below wr.heap.size wr w5 := ⟨hb5.os, hb5.tape, hb5.output, hb5.size, hb5.block⟩; obtain ⟨A5, c5, rfl, hl5, hm5, hh5⟩ := own5.opened; have hnx := Lib.hid (HG.out.next hb6 own5); have X5 := HG.out.x.below hb6 hgl; have y2 := X5.cell 2; have z2 := X5.frozen 2; clear own5 hb5 hb6 hl5 hm5 hh5 X5)
            go_roundw
            case rel => exact ⟨k + 1, A5, c5, hlt, by go_num, hnx.out⟩
            case measure => simp [intOf] <;> omega
          · obtain rfl : k = s.waits.length := by omega
            have d1 : decide ((s.waits.length : Int) < (s.waits.length : Int)) = false := decide_eq_false (by omega)
            have d2 : decide (s.waits.length < s.waits.length) = false := decide_eq_false (by omega)
            have hfl : keptK sm s.waits.length = merge sm.kept sm.waits := by rw [← HWM']; unfold keptK; rw [List.take_length]
            rw [hfl] at hgo q2
            have z3 := hgo.x.frozen 3
            have HG := Lib.hid hgo
            clear hgo hfl HWM'
            go_wp2_with fail
            have hgo := HG.out
            have Ta : TurnsIn (fun b => b = w.heap.size) wr (wr.setCell ⟨w.heap.size, 3, none⟩ (.slice (some ⟨wr.heap.size, 0, none⟩) 0 0)) := TurnsIn.setCell (S := fun b => b = w.heap.size) (p := ⟨w.heap.size, 3, none⟩) (TurnsIn.refl _ _) (Or.inl rfl) _
            have Xa : Block (wr.setCell ⟨w.heap.size, 3, none⟩ (.slice (some ⟨wr.heap.size, 0, none⟩) 0 0)) w.heap.size 31 (dCells Az cz (some ⟨wr.heap.size, 0, none⟩) 0 sm.flush) := hgo.x.set_ 3 _
            have Ba : Below (wr.setCell ⟨w.heap.size, 3, none⟩ (.slice (some ⟨wr.heap.size, 0, none⟩) 0 0)).heap.size (wr.setCell ⟨w.heap.size, 3, none⟩ (.slice (some ⟨wr.heap.size, 0, none⟩) 0 0)) ((wr.setCell ⟨w.heap.size, 3, none⟩ (.slice (some ⟨wr.heap.size, 0, none⟩) 0 0)).alloc (.cells #[] 95)) := (Below.refl _ _).alloc (Nat.le_refl _) _
            have X7 : Block ((wr.setCell ⟨w.heap.size, 3, none⟩ (.slice (some ⟨wr.heap.size, 0, none⟩) 0 0)).alloc (.cells #[] 95)) w.heap.size 31 (dCells Az cz (some ⟨wr.heap.size, 0, none⟩) 0 sm.flush) := Xa.alloc _
            have Z7 : Block ((wr.setCell ⟨w.heap.size, 3, none⟩ (.slice (some ⟨wr.heap.size, 0, none⟩) 0 0)).alloc (.cells #[] 95)) (w.heap.size + 1) 31 zD := (hgo.z.far (p := ⟨w.heap.size, 3, none⟩) (by show w.heap.size + 1 ≠ w.heap.size; omega) _).alloc _
            have hk7 := ((hgo.hk.turn hgo.x (dCells_noText _ _ _ _ _) Ta).below Ba).more Ba.size
            have RV7 : RDv ((wr.setCell ⟨w.heap.size, 3, none⟩ (.slice (some ⟨wr.heap.size, 0, none⟩) 0 0)).alloc (.cells #[] 95)) (.agg (dCells Az cz (some ⟨wr.heap.size, 0, none⟩) 0 sm.flush)) sm.flush := ⟨Az, cz, _, 0, rfl, hk7, HoldsF.nil, hgo.l1, hgo.l2, Nat.le_refl _, Nat.zero_le _⟩
            have B6 := hgo.b.trans (Ta.toBelow hgo.b.size (fun b hb e => by omega))
            have B7 := B6.trans (Ba.mono B6.size)
            generalize ((wr.setCell ⟨w.heap.size, 3, none⟩ (.slice (some ⟨wr.heap.size, 0, none⟩) 0 0)).alloc (.cells #[] 95)) = w7 at *
            clear Xa Ta Ba hk7 hgo HG q2 q3 z3 hgl B6
            generalize sm.flush = sn at *
            refine wp_region_still_tail 2 (by kernel_rfl) (by kernel_rfl) ?_
            simp only [List.take_succ_cons, List.take_zero, List.drop_succ_cons, List.drop_zero]
            refine wpStill_step (fun K9 hK9 => ?_)
            refine still_load_row (by rfl) 31 _ (by rfl) w.heap.size 0 (by rfl) (dCells Az cz (some ⟨wr.heap.size, 0, none⟩) 0 sn).toList _ (by exact block_range X7) Tryd.underlying31 (by rfl) (by kernel_rfl) ?_
            refine hK9 _ ?_
            clear hK9 K9
            still_step
            refine wpStill_nil ?_
            refine wpList_store_blk (w := w7.drew) (cs := zD) rfl _ _ _ rfl (ds := (dCells Az cz (some ⟨wr.heap.size, 0, none⟩) 0 sn).toList) (by exact Z7) rfl rfl rfl (by kernel_rfl) (dCells_one _ _ _ _ _) ?_
            intro w8 X8 g8
            have g9 : w7.grownBy w8 (some (w.heap.size + 1)) := ⟨g8.os, g8.tape, g8.output, g8.size, g8.block⟩
            try simp only [Act.put]
            go_wp2_with fail
            exact bodyPost_ret (v := .tuple #[.int .i64 0, .agg (dCells Az cz (some ⟨wr.heap.size, 0, none⟩) 0 sn)]) (results_tmp_row rfl _ _ (w.heap.size + 1) 31 _ (0, 0) _ _ rfl rfl X8 Tryd.underlying31 rfl (by kernel_rfl)) rfl ⟨_, rfl, RV7.kept Z7 zD_noText g9, B7.trans (below_of_grown g9 B7.size fun b hb => by injection hb with hb; omega)⟩
end Go.Proofs.YtpnodocjpedcmaaDoor.Sec
