/-
  Layer 24, journal: the document's Get: contract. Conditions: as each theorem names.
-/
import Derived.Test.YtpnodocjpedcmaaDoorMJrG
import Derived.Test.YtpnodocjpedcmaaDoorMGIays21
import Derived.Test.YtpnodocjpedcmaaDoorMGIays0
import Derived.Deep.RegionHeld
import Derived.IntWalk
import Derived.Test.YtpnodocjpedcmaaDoorMGIays14
namespace Go.Proofs.YtpnodocjpedcmaaDoor.Jr
open Go.ChangeShapes Go.WideShapes Go.ChangeAt Go.RowKit Go.Proofs.YtpnodocjpedcmaaDoor.Kit Go.Proofs.YtpnodocjpedcmaaDoor.Oct
open Go.Proofs.YtpnodocjpedcmaaDoor.Sha (sumL sumL_length sumL_octets)

set_option maxRecDepth 100000 in
set_option maxHeartbeats 6400000 in
theorem rjget_any (A : Option Addr) (xs : List Int) (c : Nat) (w : World) (hc : xs.length ≤ c) (hm : c ≤ maxLen) (hl : xs.length ≤ 1000) (ho : Octets xs) (hr : Holds w w.heap.size .u8 A xs) :
    Calls Tryd.prog 52 #[.slice A xs.length c] w (GetsR (getV xs) (getE xs) w) := by
  have HB := Lib.hid zero_build
  have HL0 := Lib.hid (rec0.cells_length rfl)
  have HO0 := Lib.hid rec0.cells_one
  have BA : Below w.heap.size w ((w.alloc (.cells #[.int .u64 0, .int .u8 0, .int .u64 0, .int .i64 0, .int .u8 0, .int .u8 0, .int .u8 0, .int .u8 0, .int .u8 0, .int .u8 0, .int .u8 0, .int .u8 0, .int .u8 0, .int .u8 0, .int .u8 0, .int .u8 0, .int .u8 0, .int .u8 0, .int .u8 0, .int .u8 0, .int .u8 0, .int .u8 0, .int .u8 0, .int .u8 0, .int .u8 0, .int .u8 0, .int .u8 0, .int .u8 0, .int .u8 0, .int .u8 0, .int .u8 0, .int .u8 0, .int .u8 0, .int .u8 0, .int .u8 0, .int .u8 0, .int .u8 0, .int .u8 0, .int .u64 0, .int .i64 0, .int .i64 0, .int .u64 0, .int .i64 0, .int .i64 0] 50)).alloc (.cells #[.int .u64 0, .int .u8 0, .int .u64 0, .int .i64 0, .int .u8 0, .int .u8 0, .int .u8 0, .int .u8 0, .int .u8 0, .int .u8 0, .int .u8 0, .int .u8 0, .int .u8 0, .int .u8 0, .int .u8 0, .int .u8 0, .int .u8 0, .int .u8 0, .int .u8 0, .int .u8 0, .int .u8 0, .int .u8 0, .int .u8 0, .int .u8 0, .int .u8 0, .int .u8 0, .int .u8 0, .int .u8 0, .int .u8 0, .int .u8 0, .int .u8 0, .int .u8 0, .int .u8 0, .int .u8 0, .int .u8 0, .int .u8 0, .int .u8 0, .int .u8 0, .int .u64 0, .int .i64 0, .int .i64 0, .int .u64 0, .int .i64 0, .int .i64 0] 50)) := (below_last w (.cells #[.int .u64 0, .int .u8 0, .int .u64 0, .int .i64 0, .int .u8 0, .int .u8 0, .int .u8 0, .int .u8 0, .int .u8 0, .int .u8 0, .int .u8 0, .int .u8 0, .int .u8 0, .int .u8 0, .int .u8 0, .int .u8 0, .int .u8 0, .int .u8 0, .int .u8 0, .int .u8 0, .int .u8 0, .int .u8 0, .int .u8 0, .int .u8 0, .int .u8 0, .int .u8 0, .int .u8 0, .int .u8 0, .int .u8 0, .int .u8 0, .int .u8 0, .int .u8 0, .int .u8 0, .int .u8 0, .int .u8 0, .int .u8 0, .int .u8 0, .int .u8 0, .int .u64 0, .int .i64 0, .int .i64 0, .int .u64 0, .int .i64 0, .int .i64 0] 50)).alloc (below_last w (.cells #[.int .u64 0, .int .u8 0, .int .u64 0, .int .i64 0, .int .u8 0, .int .u8 0, .int .u8 0, .int .u8 0, .int .u8 0, .int .u8 0, .int .u8 0, .int .u8 0, .int .u8 0, .int .u8 0, .int .u8 0, .int .u8 0, .int .u8 0, .int .u8 0, .int .u8 0, .int .u8 0, .int .u8 0, .int .u8 0, .int .u8 0, .int .u8 0, .int .u8 0, .int .u8 0, .int .u8 0, .int .u8 0, .int .u8 0, .int .u8 0, .int .u8 0, .int .u8 0, .int .u8 0, .int .u8 0, .int .u8 0, .int .u8 0, .int .u8 0, .int .u8 0, .int .u64 0, .int .i64 0, .int .i64 0, .int .u64 0, .int .i64 0, .int .i64 0] 50)).size _
  have rA : Block ((w.alloc (.cells #[.int .u64 0, .int .u8 0, .int .u64 0, .int .i64 0, .int .u8 0, .int .u8 0, .int .u8 0, .int .u8 0, .int .u8 0, .int .u8 0, .int .u8 0, .int .u8 0, .int .u8 0, .int .u8 0, .int .u8 0, .int .u8 0, .int .u8 0, .int .u8 0, .int .u8 0, .int .u8 0, .int .u8 0, .int .u8 0, .int .u8 0, .int .u8 0, .int .u8 0, .int .u8 0, .int .u8 0, .int .u8 0, .int .u8 0, .int .u8 0, .int .u8 0, .int .u8 0, .int .u8 0, .int .u8 0, .int .u8 0, .int .u8 0, .int .u8 0, .int .u8 0, .int .u64 0, .int .i64 0, .int .i64 0, .int .u64 0, .int .i64 0, .int .i64 0] 50)).alloc (.cells #[.int .u64 0, .int .u8 0, .int .u64 0, .int .i64 0, .int .u8 0, .int .u8 0, .int .u8 0, .int .u8 0, .int .u8 0, .int .u8 0, .int .u8 0, .int .u8 0, .int .u8 0, .int .u8 0, .int .u8 0, .int .u8 0, .int .u8 0, .int .u8 0, .int .u8 0, .int .u8 0, .int .u8 0, .int .u8 0, .int .u8 0, .int .u8 0, .int .u8 0, .int .u8 0, .int .u8 0, .int .u8 0, .int .u8 0, .int .u8 0, .int .u8 0, .int .u8 0, .int .u8 0, .int .u8 0, .int .u8 0, .int .u8 0, .int .u8 0, .int .u8 0, .int .u64 0, .int .i64 0, .int .i64 0, .int .u64 0, .int .i64 0, .int .i64 0] 50)) (w.heap.size + 1) 50 rec0.cells.toArray := by
    have : Block _ _ _ rec0.cells.toArray := Block.new (w.alloc (.cells #[.int .u64 0, .int .u8 0, .int .u64 0, .int .i64 0, .int .u8 0, .int .u8 0, .int .u8 0, .int .u8 0, .int .u8 0, .int .u8 0, .int .u8 0, .int .u8 0, .int .u8 0, .int .u8 0, .int .u8 0, .int .u8 0, .int .u8 0, .int .u8 0, .int .u8 0, .int .u8 0, .int .u8 0, .int .u8 0, .int .u8 0, .int .u8 0, .int .u8 0, .int .u8 0, .int .u8 0, .int .u8 0, .int .u8 0, .int .u8 0, .int .u8 0, .int .u8 0, .int .u8 0, .int .u8 0, .int .u8 0, .int .u8 0, .int .u8 0, .int .u8 0, .int .u64 0, .int .i64 0, .int .i64 0, .int .u64 0, .int .i64 0, .int .i64 0] 50)) 50 #[.int .u64 0, .int .u8 0, .int .u64 0, .int .i64 0, .int .u8 0, .int .u8 0, .int .u8 0, .int .u8 0, .int .u8 0, .int .u8 0, .int .u8 0, .int .u8 0, .int .u8 0, .int .u8 0, .int .u8 0, .int .u8 0, .int .u8 0, .int .u8 0, .int .u8 0, .int .u8 0, .int .u8 0, .int .u8 0, .int .u8 0, .int .u8 0, .int .u8 0, .int .u8 0, .int .u8 0, .int .u8 0, .int .u8 0, .int .u8 0, .int .u8 0, .int .u8 0, .int .u8 0, .int .u8 0, .int .u8 0, .int .u8 0, .int .u8 0, .int .u8 0, .int .u64 0, .int .i64 0, .int .i64 0, .int .u64 0, .int .i64 0, .int .i64 0]
    rwa [show (w.alloc (.cells #[.int .u64 0, .int .u8 0, .int .u64 0, .int .i64 0, .int .u8 0, .int .u8 0, .int .u8 0, .int .u8 0, .int .u8 0, .int .u8 0, .int .u8 0, .int .u8 0, .int .u8 0, .int .u8 0, .int .u8 0, .int .u8 0, .int .u8 0, .int .u8 0, .int .u8 0, .int .u8 0, .int .u8 0, .int .u8 0, .int .u8 0, .int .u8 0, .int .u8 0, .int .u8 0, .int .u8 0, .int .u8 0, .int .u8 0, .int .u8 0, .int .u8 0, .int .u8 0, .int .u8 0, .int .u8 0, .int .u8 0, .int .u8 0, .int .u8 0, .int .u8 0, .int .u64 0, .int .i64 0, .int .i64 0, .int .u64 0, .int .i64 0, .int .i64 0] 50)).heap.size = w.heap.size + 1 by simp] at this
  have rB : Block ((w.alloc (.cells #[.int .u64 0, .int .u8 0, .int .u64 0, .int .i64 0, .int .u8 0, .int .u8 0, .int .u8 0, .int .u8 0, .int .u8 0, .int .u8 0, .int .u8 0, .int .u8 0, .int .u8 0, .int .u8 0, .int .u8 0, .int .u8 0, .int .u8 0, .int .u8 0, .int .u8 0, .int .u8 0, .int .u8 0, .int .u8 0, .int .u8 0, .int .u8 0, .int .u8 0, .int .u8 0, .int .u8 0, .int .u8 0, .int .u8 0, .int .u8 0, .int .u8 0, .int .u8 0, .int .u8 0, .int .u8 0, .int .u8 0, .int .u8 0, .int .u8 0, .int .u8 0, .int .u64 0, .int .i64 0, .int .i64 0, .int .u64 0, .int .i64 0, .int .i64 0] 50)).alloc (.cells #[.int .u64 0, .int .u8 0, .int .u64 0, .int .i64 0, .int .u8 0, .int .u8 0, .int .u8 0, .int .u8 0, .int .u8 0, .int .u8 0, .int .u8 0, .int .u8 0, .int .u8 0, .int .u8 0, .int .u8 0, .int .u8 0, .int .u8 0, .int .u8 0, .int .u8 0, .int .u8 0, .int .u8 0, .int .u8 0, .int .u8 0, .int .u8 0, .int .u8 0, .int .u8 0, .int .u8 0, .int .u8 0, .int .u8 0, .int .u8 0, .int .u8 0, .int .u8 0, .int .u8 0, .int .u8 0, .int .u8 0, .int .u8 0, .int .u8 0, .int .u8 0, .int .u64 0, .int .i64 0, .int .i64 0, .int .u64 0, .int .i64 0, .int .i64 0] 50)) w.heap.size 50 rec0.cells.toArray := Block.alloc (Block.new w 50 #[.int .u64 0, .int .u8 0, .int .u64 0, .int .i64 0, .int .u8 0, .int .u8 0, .int .u8 0, .int .u8 0, .int .u8 0, .int .u8 0, .int .u8 0, .int .u8 0, .int .u8 0, .int .u8 0, .int .u8 0, .int .u8 0, .int .u8 0, .int .u8 0, .int .u8 0, .int .u8 0, .int .u8 0, .int .u8 0, .int .u8 0, .int .u8 0, .int .u8 0, .int .u8 0, .int .u8 0, .int .u8 0, .int .u8 0, .int .u8 0, .int .u8 0, .int .u8 0, .int .u8 0, .int .u8 0, .int .u8 0, .int .u8 0, .int .u8 0, .int .u8 0, .int .u64 0, .int .i64 0, .int .i64 0, .int .u64 0, .int .i64 0, .int .i64 0]) _
  have HE : Hid (getE xs = if xs.length < 99 then 2 else if xs.take 4 ≠ [74, 82, 78, 76] then 3 else if (xs.drop 91).take 8 ≠ (sumL (xs.take 91)).take 8 then 10 else if (recOf xs).may then 0 else 3) := Lib.hid rfl
  have HV : Hid (getV xs = if getE xs = 0 then recOf xs else rec0) := Lib.hid rfl
  by_cases h99 : xs.length < 99
  · have d1 : decide ((xs.length : Int) < 99) = true := decide_eq_true (by omega)
    rw [if_pos h99] at HE
    rw [HE.out, if_neg (by decide)] at HV
    go_enter Tryd.func52, Tryd.ntmps52
    go_wp2_with (first
      | (refine wpList_build_known rfl _ _ rfl (.agg rec0.cells.toArray) ?_ ?_; (intro W; have hw9 := HB.out W; simpa [Act.eval] using hw9))
      | (have _t := rA; refine wpList_store_blk rfl _ _ _ rfl (ds := rec0.cells) rA rfl rfl (by simp) (by rw [HL0.out]; kernel_rfl) HO0.out ?_; clear _t; intro w2 r2 g2; have r1 := Block.grown rB g2 (by intro e; injection e with e; omega); have B2 : Below w.heap.size w w2 := BA.trans (below_of_grown g2 BA.size fun b hb => by injection hb with hb; omega); clear rA rB BA g2)
      | (have _t := r2; refine wpList_load_midV (by rfl) _ _ rfl (w.heap.size + 1) 0 rfl rec0.cells (block_range r2) Tryd.underlying50 rfl (by rw [HL0.out]; kernel_rfl) ?_)
      | (have _t := r1; refine wpList_store_blk rfl _ _ _ rfl (ds := rec0.cells) r1 rfl rfl (by simp) (by rw [HL0.out]; kernel_rfl) HO0.out ?_; intro w9 r9 g9))
    refine bodyPost_ret (v := .tuple #[.agg rec0.cells.toArray, .int .i64 2]) (results_row_tmp rfl _ _ w.heap.size 50 _ (0, 0) _ rfl r9 _ rfl Tryd.underlying50 rfl (by rw [show rec0.cells.toArray.size = 44 from HL0.out]; kernel_rfl)) rfl ⟨?_, ?_⟩
    · rw [HE.out, HV.out]
    exact B2.trans (below_of_grown g9 B2.size fun b hb => by injection hb with hb; omega)
  obtain ⟨b, off, rfl, hb, hcl⟩ := hr (by omega)
  have d1 : decide ((xs.length : Int) < 99) = false := decide_eq_false (by omega)
  rw [if_neg h99] at HE
  have l4 : (xs.take 4).length = 4 := by rw [List.length_take]; omega
  have HF3 : Hid (∀ W, Below w.heap.size w W → (convert 22 9 (.slice (some ⟨b, off, none⟩) 4 c)).run Tryd.prog W = .ok (.string (strOfNums (xs.take 4))) W) :=
    Lib.hid (fun W hB => by
      have := conv_bytes Tryd.underlying22 Tryd.underlying5 Tryd.underlying9 W (some ⟨b, off, none⟩) (xs.take 4) c _ ((hr.below hB).prefix_ 4)
      rwa [l4] at this)
  have hs4 : ((strOfNums (xs.take 4)).toList == [74, 82, 78, 76]) = decide (xs.take 4 = [74, 82, 78, 76]) := by
    have := str_beq (ho.head 4) (ys := [74, 82, 78, 76]) (by intro x hx; simp at hx; omega)
    rwa [show (strOfNums [74, 82, 78, 76]).toList = [74, 82, 78, 76] by rw [ByteArray.toList_eq]; decide] at this
  have i4 : (4 : Int) ≤ (xs.length : Int) := by omega
  have j4 : (4 : Int) ≤ (c : Int) := by omega
  by_cases h4 : ¬ xs.take 4 = [74, 82, 78, 76]
  · rw [if_pos h4] at HE
    rw [HE.out, if_neg (by decide)] at HV
    rw [decide_eq_false h4] at hs4
    generalize strOfNums (xs.take 4) = s4 at *
    clear h4 hcl l4
    go_enter Tryd.func52, Tryd.ntmps52
    go_wp2_with (first
      | (refine wpList_build_known rfl _ _ rfl (.agg rec0.cells.toArray) ?_ ?_; (intro W; have hw9 := HB.out W; simpa [Act.eval] using hw9))
      | (have _t := rA; refine wpList_store_blk rfl _ _ _ rfl (ds := rec0.cells) rA rfl rfl (by simp) (by rw [HL0.out]; kernel_rfl) HO0.out ?_; clear _t; intro w2 r2 g2; have r1 := Block.grown rB g2 (by intro e; injection e with e; omega); have B2 : Below w.heap.size w w2 := BA.trans (below_of_grown g2 BA.size fun b hb => by injection hb with hb; omega); clear rA rB BA g2; have f3 := HF3.out _ B2)
      | (have _t := r2; refine wpList_load_midV (by rfl) _ _ rfl (w.heap.size + 1) 0 rfl rec0.cells (block_range r2) Tryd.underlying50 rfl (by rw [HL0.out]; kernel_rfl) ?_)
      | (have _t := r1; refine wpList_store_blk rfl _ _ _ rfl (ds := rec0.cells) r1 rfl rfl (by simp) (by rw [HL0.out]; kernel_rfl) HO0.out ?_; intro w9 r9 g9))
    refine bodyPost_ret (v := .tuple #[.agg rec0.cells.toArray, .int .i64 3]) (results_row_tmp rfl _ _ w.heap.size 50 _ (0, 0) _ rfl r9 _ rfl Tryd.underlying50 rfl (by rw [show rec0.cells.toArray.size = 44 from HL0.out]; kernel_rfl)) rfl ⟨?_, ?_⟩
    · rw [HE.out, HV.out]
    exact B2.trans (below_of_grown g9 B2.size fun b hb => by injection hb with hb; omega)
  have h4' := Decidable.not_not.1 h4
  rw [if_neg h4] at HE
  rw [decide_eq_true h4'] at hs4
  have l91 : (xs.take 91).length = 91 := by rw [List.length_take]; omega
  have l8 : ((xs.drop 91).take 8).length = 8 := by rw [List.length_take, List.length_drop]; omega
  have GS : Hid (∀ W, Below w.heap.size w W → Calls Tryd.prog 81 #[.slice (some ⟨b, off, none⟩) 91 c] W fun e w' => e = .returned (arrV .u8 (sumL (xs.take 91))) ∧ Below W.heap.size W w') :=
    Lib.hid (fun W hB => by
      have := Sha.rsum_any (some ⟨b, off, none⟩) (xs.take 91) c W (by omega) (by omega) hm (ho.head 91) (((hr.below hB).more hB.size).prefix_ 91)
      rwa [l91] at this)
  have HC : Hid (∀ W, Below w.heap.size w W → (convert 22 9 (.slice (some ⟨b, off + 91, none⟩) 8 (c - 91))).run Tryd.prog W = .ok (.string (strOfNums ((xs.drop 91).take 8))) W) :=
    Lib.hid (fun W hB => by
      have := conv_bytes Tryd.underlying22 Tryd.underlying5 Tryd.underlying9 W (some ⟨b, off + 91, none⟩) ((xs.drop 91).take 8) (c - 91) _ ((hr.below hB).sub 91 8 (by omega))
      rwa [l8] at this)
  have hsl := Lib.hid (sumL_length (xs.take 91))
  have HQ := Lib.hid (str_beq ((sumL_octets (xs.take 91)).head 8) ((ho.tail 91).head 8))
  obtain ⟨bq, hbq⟩ : ∃ bq : Bool, decide ((xs.drop 91).take 8 = (sumL (xs.take 91)).take 8) = bq := ⟨_, rfl⟩
  rw [show decide ((sumL (xs.take 91)).take 8 = (xs.drop 91).take 8) = bq by rw [← hbq, decide_eq_decide]; exact eq_comm] at HQ
  have HE' : Hid (getE xs = if bq = false then 10 else if (recOf xs).may then 0 else 3) := by
    refine Lib.hid (HE.out.trans ?_)
    cases bq with
    | true => rw [if_neg (not_not_intro (of_decide_eq_true hbq))]; exact (if_neg (by decide)).symm
    | false => rw [if_pos (of_decide_eq_false hbq), if_pos rfl]
  generalize sumL (xs.take 91) = ys at *
  generalize strOfNums ((xs.drop 91).take 8) = s18 at *
  generalize strOfNums (xs.take 4) = s4 at *
  clear HE hbq l91 l8 h4 h4' l4 d1
  have d1 : decide ((xs.length : Int) < 99) = false := decide_eq_false (by omega)
  have j91 : (91 : Int) ≤ (xs.length : Int) := by omega
  have j99 : (99 : Int) ≤ (c : Int) := by omega
  have k91 : (91 : Int) ≤ (c : Int) := by omega
  have kc : ¬ c = 91 := by omega
  go_enter Tryd.func52, Tryd.ntmps52
  go_wp2_with (first
      | (refine wpList_build_known rfl _ _ rfl (.agg rec0.cells.toArray) ?_ ?_; (intro W; have hw9 := HB.out W; simpa [Act.eval] using hw9))
      | (have _t := rA; refine wpList_store_blk rfl _ _ _ rfl (ds := rec0.cells) rA rfl rfl (by simp) (by rw [HL0.out]; kernel_rfl) HO0.out ?_; clear _t; intro w2 r2 g2; have r1 := Block.grown rB g2 (by intro e; injection e with e; omega); have B2 : Below w.heap.size w w2 := BA.trans (below_of_grown g2 BA.size fun b hb => by injection hb with hb; omega); clear rA rB BA g2; have f3 := HF3.out _ B2)
      | (have _t := r2; refine wpList_load_midV (by rfl) _ _ rfl (w.heap.size + 1) 0 rfl rec0.cells (block_range r2) Tryd.underlying50 rfl (by rw [HL0.out]; kernel_rfl) ?_)
      | (have _t := r1; refine wpList_store_blk rfl _ _ _ rfl (ds := rec0.cells) r1 rfl rfl (by simp) (by rw [HL0.out]; kernel_rfl) HO0.out ?_; intro w9 r9 g9))
  refine (GS.out _ B2).mono ?_
  rintro e w3 ⟨rfl, hb3⟩
  have z3 : Arr (w3.alloc (.cells ((List.replicate 32 (0 : Int)).map (Value.int .u8)).toArray 47)) w3.heap.size 47 .u8 (List.replicate 32 0) := Arr.new w3 _ _ _
  have q1 := (Block.below r1 hb3 (Block.lt r1)).alloc (.cells ((List.replicate 32 (0 : Int)).map (Value.int .u8)).toArray 47)
  have q2 := (Block.below r2 hb3 (Block.lt r2)).alloc (.cells ((List.replicate 32 (0 : Int)).map (Value.int .u8)).toArray 47)
  have b3 := B2.trans (hb3.mono B2.size)
  have hs3 := b3.size
  have hs2 := Block.lt r2
  have hs23 := hb3.size
  have b4 := b3.alloc hs3 (.cells ((List.replicate 32 (0 : Int)).map (Value.int .u8)).toArray 47)
  clear r1 r2 B2 hb3 f3
  go_wp2_with (have _t := z3; refine wpList_store_arr rfl _ _ _ rfl (ys := ys) z3 rfl rfl (by rw [hsl.out]; rfl) (by rw [hsl.out]; kernel_rfl) ?_; clear _t; intro w4 x4 g4; have r1 := q1.grown g4 (by intro e; injection e with e; omega); have r2 := q2.grown g4 (by intro e; injection e with e; omega); have B2 : Below w.heap.size w w4 := b4.trans (below_of_grown g4 b4.size fun b hb => by injection hb with hb; omega); clear z3 q1 q2 b4 g4)
  have l8 : (ys.take 8).length = 8 := by rw [List.length_take, hsl.out]; rfl
  have BD : Below w.heap.size w w4.drew := ⟨B2.os, B2.tape, B2.output, B2.size, B2.block⟩
  have f18 := HC.out _ BD
  have f22 := conv_bytes Tryd.underlying22 Tryd.underlying5 Tryd.underlying9 w4.drew (some ⟨w3.heap.size, 0, none⟩) (ys.take 8) 32 w4.heap.size ((Arr.holds_all x4).prefix_ 8)
  rw [l8] at f22
  have hq := HQ.out
  generalize strOfNums (ys.take 8) = s22 at *
  try simp only [Act.put]
  go_cut [26] (fun v wx => v = .bool (!bq) ∧ Block wx w.heap.size 50 rec0.cells.toArray ∧ Block wx (w.heap.size + 1) 50 rec0.cells.toArray ∧ Below w.heap.size w wx)
  case first =>
    go_region_law fail
    all_goals
      go_wp2_with fail
      go_meet
      exact ⟨rfl, r1, r2, BD⟩
  case rest =>
  clear f18 f22 hq HQ HC BD B2 r1 r2 x4 b3 hs3 hs2 hs23
  obtain ⟨rfl, r1, r2, B2⟩ := hcut
  rename World => w5
  cases bq with
  | false =>
    rw [if_pos rfl] at HE'
    rw [HE'.out, if_neg (by decide)] at HV
    go_wp2_with (first
      | (refine wpList_build_known rfl _ _ rfl (.agg rec0.cells.toArray) ?_ ?_; (intro W; have hw9 := HB.out W; simpa [Act.eval] using hw9))
      | (have _t := rA; refine wpList_store_blk rfl _ _ _ rfl (ds := rec0.cells) rA rfl rfl (by simp) (by rw [HL0.out]; kernel_rfl) HO0.out ?_; clear _t; intro w2 r2 g2; have r1 := Block.grown rB g2 (by intro e; injection e with e; omega); have B2 : Below w.heap.size w w2 := BA.trans (below_of_grown g2 BA.size fun b hb => by injection hb with hb; omega); clear rA rB BA g2; have f3 := HF3.out _ B2)
      | (have _t := r2; refine wpList_load_midV (by rfl) _ _ rfl (w.heap.size + 1) 0 rfl rec0.cells (block_range r2) Tryd.underlying50 rfl (by rw [HL0.out]; kernel_rfl) ?_)
      | (have _t := r1; refine wpList_store_blk rfl _ _ _ rfl (ds := rec0.cells) r1 rfl rfl (by simp) (by rw [HL0.out]; kernel_rfl) HO0.out ?_; intro w9 r9 g9))
    refine bodyPost_ret (v := .tuple #[.agg rec0.cells.toArray, .int .i64 10]) (results_row_tmp rfl _ _ w.heap.size 50 _ (0, 0) _ rfl r9 _ rfl Tryd.underlying50 rfl (by rw [show rec0.cells.toArray.size = 44 from HL0.out]; kernel_rfl)) rfl ⟨?_, ?_⟩
    · rw [HE'.out, HV.out]
    exact B2.trans (below_of_grown g9 B2.size fun b hb => by injection hb with hb; omega)
  | true =>
    rw [if_neg (by decide)] at HE'
    obtain ⟨one, hone⟩ : ∃ f : Nat → Int, f = fun p => xs.getD p 0 := ⟨_, rfl⟩
    have hoct : ∀ p, p < xs.length → 0 ≤ one p ∧ one p ≤ 255 := fun p hp => by rw [hone]; have := ho.at_ p; simpa [List.getD] using this
    have o12 := hoct 12 (by omega)
    have o25 := hoct 25 (by omega)
    have o26 := hoct 26 (by omega)
    have n21 := numA_four xs 21 ho (by omega)
    have n67 := numA_four xs 67 ho (by omega)
    have n71 := numA_four xs 71 ho (by omega)
    have n83 := numA_four xs 83 ho (by omega)
    have n87 := numA_four xs 87 ho (by omega)
    have HMR : Hid (recOf xs = ⟨numA xs 4 8, one 12, numA xs 13 8, numA xs 21 4, one 25, one 26, (xs.drop 27).take 32, numA xs 59 8, numA xs 67 4, numA xs 71 4, numA xs 75 8, numA xs 83 4, numA xs 87 4⟩) := Lib.hid (by rw [hone]; rfl)
    have HCL : Hid (∀ W, Below w.heap.size w W → ∀ j, j < xs.length → W.cell? ⟨b, off + j, none⟩ = some (.int .u8 (one j))) := Lib.hid (fun W hB j hj => by rw [hone]; exact (hB.cell (p := ⟨b, off + j, none⟩) hb).trans (hcl j hj))
    have hoct' := Lib.hid hoct
    have hone' := Lib.hid hone
    clear hoct hone hcl
    have G4 : Hid (∀ W, Below w.heap.size w W → Calls Tryd.prog 82 #[.slice (some ⟨b, off, none⟩) xs.length c, .int .i64 4, .int .i64 8] W fun e w' => e = .returned (.int .u64 (numA xs 4 8)) ∧ W = w') :=
      Lib.hid (fun W hB => rnext_any (some ⟨b, off, none⟩) xs c 4 8 W (by omega) hc (by omega) (by omega) ho ((hr.below hB).more hB.size))
    have G13 : Hid (∀ W, Below w.heap.size w W → Calls Tryd.prog 82 #[.slice (some ⟨b, off, none⟩) xs.length c, .int .i64 13, .int .i64 8] W fun e w' => e = .returned (.int .u64 (numA xs 13 8)) ∧ W = w') :=
      Lib.hid (fun W hB => rnext_any (some ⟨b, off, none⟩) xs c 13 8 W (by omega) hc (by omega) (by omega) ho ((hr.below hB).more hB.size))
    have G21 : Hid (∀ W, Below w.heap.size w W → Calls Tryd.prog 82 #[.slice (some ⟨b, off, none⟩) xs.length c, .int .i64 21, .int .i64 4] W fun e w' => e = .returned (.int .u64 (numA xs 21 4)) ∧ W = w') :=
      Lib.hid (fun W hB => rnext_any (some ⟨b, off, none⟩) xs c 21 4 W (by omega) hc (by omega) (by omega) ho ((hr.below hB).more hB.size))
    have G59 : Hid (∀ W, Below w.heap.size w W → Calls Tryd.prog 82 #[.slice (some ⟨b, off, none⟩) xs.length c, .int .i64 59, .int .i64 8] W fun e w' => e = .returned (.int .u64 (numA xs 59 8)) ∧ W = w') :=
      Lib.hid (fun W hB => rnext_any (some ⟨b, off, none⟩) xs c 59 8 W (by omega) hc (by omega) (by omega) ho ((hr.below hB).more hB.size))
    have G67 : Hid (∀ W, Below w.heap.size w W → Calls Tryd.prog 82 #[.slice (some ⟨b, off, none⟩) xs.length c, .int .i64 67, .int .i64 4] W fun e w' => e = .returned (.int .u64 (numA xs 67 4)) ∧ W = w') :=
      Lib.hid (fun W hB => rnext_any (some ⟨b, off, none⟩) xs c 67 4 W (by omega) hc (by omega) (by omega) ho ((hr.below hB).more hB.size))
    have G71 : Hid (∀ W, Below w.heap.size w W → Calls Tryd.prog 82 #[.slice (some ⟨b, off, none⟩) xs.length c, .int .i64 71, .int .i64 4] W fun e w' => e = .returned (.int .u64 (numA xs 71 4)) ∧ W = w') :=
      Lib.hid (fun W hB => rnext_any (some ⟨b, off, none⟩) xs c 71 4 W (by omega) hc (by omega) (by omega) ho ((hr.below hB).more hB.size))
    have G75 : Hid (∀ W, Below w.heap.size w W → Calls Tryd.prog 82 #[.slice (some ⟨b, off, none⟩) xs.length c, .int .i64 75, .int .i64 8] W fun e w' => e = .returned (.int .u64 (numA xs 75 8)) ∧ W = w') :=
      Lib.hid (fun W hB => rnext_any (some ⟨b, off, none⟩) xs c 75 8 W (by omega) hc (by omega) (by omega) ho ((hr.below hB).more hB.size))
    have G83 : Hid (∀ W, Below w.heap.size w W → Calls Tryd.prog 82 #[.slice (some ⟨b, off, none⟩) xs.length c, .int .i64 83, .int .i64 4] W fun e w' => e = .returned (.int .u64 (numA xs 83 4)) ∧ W = w') :=
      Lib.hid (fun W hB => rnext_any (some ⟨b, off, none⟩) xs c 83 4 W (by omega) hc (by omega) (by omega) ho ((hr.below hB).more hB.size))
    have G87 : Hid (∀ W, Below w.heap.size w W → Calls Tryd.prog 82 #[.slice (some ⟨b, off, none⟩) xs.length c, .int .i64 87, .int .i64 4] W fun e w' => e = .returned (.int .u64 (numA xs 87 4)) ∧ W = w') :=
      Lib.hid (fun W hB => rnext_any (some ⟨b, off, none⟩) xs c 87 4 W (by omega) hc (by omega) (by omega) ho ((hr.below hB).more hB.size))
    have BD : Below w.heap.size w w5.drew := ⟨B2.os, B2.tape, B2.output, B2.size, B2.block⟩
    have BA : Below w.heap.size w (w5.alloc (.cells #[.int .u64 0, .int .u8 0, .int .u64 0, .int .i64 0, .int .u8 0, .int .u8 0, .int .u8 0, .int .u8 0, .int .u8 0, .int .u8 0, .int .u8 0, .int .u8 0, .int .u8 0, .int .u8 0, .int .u8 0, .int .u8 0, .int .u8 0, .int .u8 0, .int .u8 0, .int .u8 0, .int .u8 0, .int .u8 0, .int .u8 0, .int .u8 0, .int .u8 0, .int .u8 0, .int .u8 0, .int .u8 0, .int .u8 0, .int .u8 0, .int .u8 0, .int .u8 0, .int .u8 0, .int .u8 0, .int .u8 0, .int .u8 0, .int .u8 0, .int .u8 0, .int .u64 0, .int .i64 0, .int .i64 0, .int .u64 0, .int .i64 0, .int .i64 0] 50)) := B2.alloc B2.size _
    have BAD : Below w.heap.size w (w5.alloc (.cells #[.int .u64 0, .int .u8 0, .int .u64 0, .int .i64 0, .int .u8 0, .int .u8 0, .int .u8 0, .int .u8 0, .int .u8 0, .int .u8 0, .int .u8 0, .int .u8 0, .int .u8 0, .int .u8 0, .int .u8 0, .int .u8 0, .int .u8 0, .int .u8 0, .int .u8 0, .int .u8 0, .int .u8 0, .int .u8 0, .int .u8 0, .int .u8 0, .int .u8 0, .int .u8 0, .int .u8 0, .int .u8 0, .int .u8 0, .int .u8 0, .int .u8 0, .int .u8 0, .int .u8 0, .int .u8 0, .int .u8 0, .int .u8 0, .int .u8 0, .int .u8 0, .int .u64 0, .int .i64 0, .int .i64 0, .int .u64 0, .int .i64 0, .int .i64 0] 50)).drew := ⟨BA.os, BA.tape, BA.output, BA.size, BA.block⟩
    have c12 := HCL.out _ B2 12 (by omega)
    have c25 := HCL.out _ B2 25 (by omega)
    have c26 := HCL.out _ B2 26 (by omega)
    have a12 := fun o => HCL.out (w5.alloc o) (B2.alloc B2.size o) 12 (by omega)
    have a25 := fun o => HCL.out (w5.alloc o) (B2.alloc B2.size o) 25 (by omega)
    have a26 := fun o => HCL.out (w5.alloc o) (B2.alloc B2.size o) 26 (by omega)
    have i12 : 12 < xs.length := by omega
    have i12z : (12 : Int) < (xs.length : Int) := by omega
    have i25z : (25 : Int) < (xs.length : Int) := by omega
    have i26z : (26 : Int) < (xs.length : Int) := by omega
    have i25 : 25 < xs.length := by omega
    have i26 : 26 < xs.length := by omega
    have zb : Block (w5.alloc (.cells #[.int .u64 0, .int .u8 0, .int .u64 0, .int .i64 0, .int .u8 0, .int .u8 0, .int .u8 0, .int .u8 0, .int .u8 0, .int .u8 0, .int .u8 0, .int .u8 0, .int .u8 0, .int .u8 0, .int .u8 0, .int .u8 0, .int .u8 0, .int .u8 0, .int .u8 0, .int .u8 0, .int .u8 0, .int .u8 0, .int .u8 0, .int .u8 0, .int .u8 0, .int .u8 0, .int .u8 0, .int .u8 0, .int .u8 0, .int .u8 0, .int .u8 0, .int .u8 0, .int .u8 0, .int .u8 0, .int .u8 0, .int .u8 0, .int .u8 0, .int .u8 0, .int .u64 0, .int .i64 0, .int .i64 0, .int .u64 0, .int .i64 0, .int .i64 0] 50)).drew w5.heap.size 50 #[.int .u64 0, .int .u8 0, .int .u64 0, .int .i64 0, .int .u8 0, .int .u8 0, .int .u8 0, .int .u8 0, .int .u8 0, .int .u8 0, .int .u8 0, .int .u8 0, .int .u8 0, .int .u8 0, .int .u8 0, .int .u8 0, .int .u8 0, .int .u8 0, .int .u8 0, .int .u8 0, .int .u8 0, .int .u8 0, .int .u8 0, .int .u8 0, .int .u8 0, .int .u8 0, .int .u8 0, .int .u8 0, .int .u8 0, .int .u8 0, .int .u8 0, .int .u8 0, .int .u8 0, .int .u8 0, .int .u8 0, .int .u8 0, .int .u8 0, .int .u8 0, .int .u64 0, .int .i64 0, .int .i64 0, .int .u64 0, .int .i64 0, .int .i64 0] := Block.new w5 _ _
    have q1 : Block (w5.alloc (.cells #[.int .u64 0, .int .u8 0, .int .u64 0, .int .i64 0, .int .u8 0, .int .u8 0, .int .u8 0, .int .u8 0, .int .u8 0, .int .u8 0, .int .u8 0, .int .u8 0, .int .u8 0, .int .u8 0, .int .u8 0, .int .u8 0, .int .u8 0, .int .u8 0, .int .u8 0, .int .u8 0, .int .u8 0, .int .u8 0, .int .u8 0, .int .u8 0, .int .u8 0, .int .u8 0, .int .u8 0, .int .u8 0, .int .u8 0, .int .u8 0, .int .u8 0, .int .u8 0, .int .u8 0, .int .u8 0, .int .u8 0, .int .u8 0, .int .u8 0, .int .u8 0, .int .u64 0, .int .i64 0, .int .i64 0, .int .u64 0, .int .i64 0, .int .i64 0] 50)).drew w.heap.size 50 rec0.cells.toArray := Block.alloc r1 _
    have q2 : Block (w5.alloc (.cells #[.int .u64 0, .int .u8 0, .int .u64 0, .int .i64 0, .int .u8 0, .int .u8 0, .int .u8 0, .int .u8 0, .int .u8 0, .int .u8 0, .int .u8 0, .int .u8 0, .int .u8 0, .int .u8 0, .int .u8 0, .int .u8 0, .int .u8 0, .int .u8 0, .int .u8 0, .int .u8 0, .int .u8 0, .int .u8 0, .int .u8 0, .int .u8 0, .int .u8 0, .int .u8 0, .int .u8 0, .int .u8 0, .int .u8 0, .int .u8 0, .int .u8 0, .int .u8 0, .int .u8 0, .int .u8 0, .int .u8 0, .int .u8 0, .int .u8 0, .int .u8 0, .int .u64 0, .int .i64 0, .int .i64 0, .int .u64 0, .int .i64 0, .int .i64 0] 50)).drew (w.heap.size + 1) 50 rec0.cells.toArray := Block.alloc r2 _
    have l2 := Block.lt r2
    go_wp2_with fail
    try simp only [Act.put]
    go_cut [6] (fun v wx => v = .pointer (some ⟨w5.heap.size, 0, none⟩) ∧ Block wx w5.heap.size 50 (Rec.mk (numA xs 4 8) (one 12) (numA xs 13 8) (numA xs 21 4) (one 25) (one 26) (List.replicate 32 0) 0 0 0 0 0 0).cells.toArray ∧ Block wx w.heap.size 50 rec0.cells.toArray ∧ Block wx (w.heap.size + 1) 50 rec0.cells.toArray ∧ Below w.heap.size w wx)
    case first =>
      refine wp_region_held_drew (S := (fun W => W.cell? ⟨b, off + 12, none⟩ = some (.int .u8 (one 12)) ∧ W.cell? ⟨b, off + 25, none⟩ = some (.int .u8 (one 25)) ∧ W.cell? ⟨b, off + 26, none⟩ = some (.int .u8 (one 26)))) (by kernel_rfl) ⟨c12, c25, c26⟩ (fun hS => ?_)
      refine wpAnyH_take (i := 0) (oi := ⟨some 28, _, _, _, _, _⟩) (v := (.slice (some ⟨b, off, none⟩) xs.length c)) rfl (by kernel_rfl) (by kernel_rfl) (by kernel_rfl) (fun _ _ _ h => h) (Or.inl ⟨by rfl, fun W hW => by go_simp⟩) hS ?_
      try simp only [Act.put, List.setIfInBounds_toArray, List.set_cons_zero, List.set_cons_succ]
      refine wpAnyH_take (i := 2) (oi := ⟨some 30, _, _, _, _, _⟩) (v := (.slice (some ⟨b, off, none⟩) xs.length c)) rfl (by kernel_rfl) (by kernel_rfl) (by kernel_rfl) (fun _ _ _ h => h) (Or.inl ⟨by rfl, fun W hW => by go_simp⟩) hS ?_
      try simp only [Act.put, List.setIfInBounds_toArray, List.set_cons_zero, List.set_cons_succ]
      refine wpAnyH_take (i := 5) (oi := ⟨some 33, _, _, _, _, _⟩) (v := (.slice (some ⟨b, off, none⟩) xs.length c)) rfl (by kernel_rfl) (by kernel_rfl) (by kernel_rfl) (fun _ _ _ h => h) (Or.inl ⟨by rfl, fun W hW => by go_simp⟩) hS ?_
      try simp only [Act.put, List.setIfInBounds_toArray, List.set_cons_zero, List.set_cons_succ]
      refine wpAnyH_take (i := 7) (oi := ⟨some 35, _, _, _, _, _⟩) (v := (.slice (some ⟨b, off, none⟩) xs.length c)) rfl (by kernel_rfl) (by kernel_rfl) (by kernel_rfl) (fun _ _ _ h => h) (Or.inl ⟨by rfl, fun W hW => by go_simp⟩) hS ?_
      try simp only [Act.put, List.setIfInBounds_toArray, List.set_cons_zero, List.set_cons_succ]
      refine wpAnyH_take (i := 10) (oi := ⟨some 38, _, _, _, _, _⟩) (v := (.slice (some ⟨b, off, none⟩) xs.length c)) rfl (by kernel_rfl) (by kernel_rfl) (by kernel_rfl) (fun _ _ _ h => h) (Or.inl ⟨by rfl, fun W hW => by go_simp⟩) hS ?_
      try simp only [Act.put, List.setIfInBounds_toArray, List.set_cons_zero, List.set_cons_succ]
      refine wpAnyH_take (i := 13) (oi := ⟨some 41, _, _, _, _, _⟩) (v := (.slice (some ⟨b, off, none⟩) xs.length c)) rfl (by kernel_rfl) (by kernel_rfl) (by kernel_rfl) (fun _ _ _ h => h) (Or.inl ⟨by rfl, fun W hW => by go_simp⟩) hS ?_
      try simp only [Act.put, List.setIfInBounds_toArray, List.set_cons_zero, List.set_cons_succ]
      refine wpAnyH_take (i := 3) (oi := ⟨some 31, _, _, _, _, _⟩) (v := (.pointer (some ⟨b, off + 12, none⟩))) rfl (by kernel_rfl) (by kernel_rfl) (by kernel_rfl) (fun _ _ _ h => h) (Or.inl ⟨by rfl, fun W hW => by go_simp⟩) hS ?_
      try simp only [Act.put, List.setIfInBounds_toArray, List.set_cons_zero, List.set_cons_succ]
      refine wpAnyH_take (i := 11) (oi := ⟨some 39, _, _, _, _, _⟩) (v := (.pointer (some ⟨b, off + 25, none⟩))) rfl (by kernel_rfl) (by kernel_rfl) (by kernel_rfl) (fun _ _ _ h => h) (Or.inl ⟨by rfl, fun W hW => by go_simp⟩) hS ?_
      try simp only [Act.put, List.setIfInBounds_toArray, List.set_cons_zero, List.set_cons_succ]
      refine wpAnyH_take (i := 14) (oi := ⟨some 42, _, _, _, _, _⟩) (v := (.pointer (some ⟨b, off + 26, none⟩))) rfl (by kernel_rfl) (by kernel_rfl) (by kernel_rfl) (fun _ _ _ h => h) (Or.inl ⟨by rfl, fun W hW => by go_simp⟩) hS ?_
      try simp only [Act.put, List.setIfInBounds_toArray, List.set_cons_zero, List.set_cons_succ]
      refine wpAnyH_take (i := 4) (oi := ⟨some 32, _, _, _, _, _⟩) (v := (.int .u8 (one 12))) rfl (by kernel_rfl) (by kernel_rfl) (by kernel_rfl) (fun _ _ _ h => h) (Or.inl ⟨by rfl, fun W hW => by (obtain ⟨q12, q25, q26⟩ := hW; go_simp)⟩) hS ?_
      try simp only [Act.put, List.setIfInBounds_toArray, List.set_cons_zero, List.set_cons_succ]
      refine wpAnyH_take (i := 12) (oi := ⟨some 40, _, _, _, _, _⟩) (v := (.int .u8 (one 25))) rfl (by kernel_rfl) (by kernel_rfl) (by kernel_rfl) (fun _ _ _ h => h) (Or.inl ⟨by rfl, fun W hW => by (obtain ⟨q12, q25, q26⟩ := hW; go_simp)⟩) hS ?_
      try simp only [Act.put, List.setIfInBounds_toArray, List.set_cons_zero, List.set_cons_succ]
      refine wpAnyH_take (i := 15) (oi := ⟨some 43, _, _, _, _, _⟩) (v := (.int .u8 (one 26))) rfl (by kernel_rfl) (by kernel_rfl) (by kernel_rfl) (fun _ _ _ h => h) (Or.inl ⟨by rfl, fun W hW => by (obtain ⟨q12, q25, q26⟩ := hW; go_simp)⟩) hS ?_
      try simp only [Act.put, List.setIfInBounds_toArray, List.set_cons_zero, List.set_cons_succ]
      refine wpAnyH_ready (rs := [1, 17]) (by kernel_rfl) (by simp) ?_
      refine AllReadyH.cons rfl (fun K hK => ?_) (AllReadyH.cons rfl (fun K hK => ?_) AllReadyH.nil)
      · go_simp
        go_at_call 82
        (with_reducible refine (G4.out _ (by first | exact BD | exact BAD | exact BA | exact B2)).mono ?_)
        rintro e _ ⟨rfl, rfl⟩
        refine hK.out _ _ (by first | exact ⟨c12, c25, c26⟩ | exact ⟨a12 _, a25 _, a26 _⟩) (fun hS => ?_)
        clear hK K
        try simp only [Act.put, List.setIfInBounds_toArray, List.set_cons_zero, List.set_cons_succ]
        refine wpAnyH_ready (rs := [6, 17]) (by kernel_rfl) (by simp) ?_
        refine AllReadyH.cons rfl (fun K hK => ?_) (AllReadyH.cons rfl (fun K hK => ?_) AllReadyH.nil)
        · go_simp
          go_at_call 82
          (with_reducible refine (G13.out _ (by first | exact BD | exact BAD | exact BA | exact B2)).mono ?_)
          rintro e _ ⟨rfl, rfl⟩
          refine hK.out _ _ (by first | exact ⟨c12, c25, c26⟩ | exact ⟨a12 _, a25 _, a26 _⟩) (fun hS => ?_)
          clear hK K
          try simp only [Act.put, List.setIfInBounds_toArray, List.set_cons_zero, List.set_cons_succ]
          refine wpAnyH_ready (rs := [8, 17]) (by kernel_rfl) (by simp) ?_
          refine AllReadyH.cons rfl (fun K hK => ?_) (AllReadyH.cons rfl (fun K hK => ?_) AllReadyH.nil)
          · go_simp
            go_at_call 82
            (with_reducible refine (G21.out _ (by first | exact BD | exact BAD | exact BA | exact B2)).mono ?_)
            rintro e _ ⟨rfl, rfl⟩
            refine hK.out _ _ (by first | exact ⟨c12, c25, c26⟩ | exact ⟨a12 _, a25 _, a26 _⟩) (fun hS => ?_)
            clear hK K
            try simp only [Act.put, List.setIfInBounds_toArray, List.set_cons_zero, List.set_cons_succ]
            refine wpAnyH_take (i := 9) (oi := ⟨some 37, _, _, _, _, _⟩) (v := (.int .i64 (numA xs 21 4))) rfl (by kernel_rfl) (by kernel_rfl) (by kernel_rfl) (fun _ _ _ h => h) (Or.inl ⟨by rfl, fun W hW => by (go_simp; exact IntWalk.i64_in _ (by omega))⟩) hS ?_
            try simp only [Act.put, List.setIfInBounds_toArray, List.set_cons_zero, List.set_cons_succ]
            refine wpAnyH_take (i := 16) (oi := ⟨some 44, _, _, _, _, _⟩) (v := (.agg (Rec.mk (numA xs 4 8) (one 12) (numA xs 13 8) (numA xs 21 4) (one 25) (one 26) (List.replicate 32 0) 0 0 0 0 0 0).cells.toArray)) rfl (by kernel_rfl) (by kernel_rfl) (by kernel_rfl) (fun _ _ _ h => h) (Or.inl ⟨by rfl, fun W hW => by (simp only [execOp, Sem.run_bind, Sem.run_pure, List.map_toArray, List.map_cons, List.map_nil]; exact (congrArg (fun r => r.andThen fun a w => Result.ok (Next.value a) w) (build_mid _ _ _ _ _ _ W)).trans rfl)⟩) hS ?_
            try simp only [Act.put, List.setIfInBounds_toArray, List.set_cons_zero, List.set_cons_succ]
            refine wpAnyH_ready (rs := [17]) (by kernel_rfl) (by simp) ?_
            refine AllReadyH.cons rfl (fun K hK => ?_) AllReadyH.nil
            go_simp
            refine hK.out _ _ (by first | exact ⟨a12 _, a25 _, a26 _⟩ | exact ⟨c12, c25, c26⟩) (fun hS => ?_)
            clear hK K
            try simp only [Act.put, List.setIfInBounds_toArray, List.set_cons_zero, List.set_cons_succ]
            refine wpAnyH_ready (rs := [18]) (by kernel_rfl) (by simp) ?_
            refine AllReadyH.cons rfl (fun K hK => ?_) AllReadyH.nil
            refine step_of_list (by rfl) (fun Q9 hn => ?_)
            refine wpList_store_blk rfl _ _ _ rfl (ds := (Rec.mk (numA xs 4 8) (one 12) (numA xs 13 8) (numA xs 21 4) (one 25) (one 26) (List.replicate 32 0) 0 0 0 0 0 0).cells) zb rfl rfl rfl (by rw [Rec.cells_length _ rfl]; kernel_rfl) (Rec.cells_one _) ?_
            intro w10 R10 g10
            have x1 := q1.grown g10 (by intro e; injection e with e; omega)
            have x2 := q2.grown g10 (by intro e; injection e with e; omega)
            have x3 := BAD.trans (below_of_grown g10 BAD.size fun b hb => by injection hb with hb; have := B2.size; omega)
            have y3 := HCL.out _ x3
            refine hn _ _ ?_
            change K (Act.put _ none _) _
            clear hn
            refine hK.out _ _ ⟨y3 12 (by omega), y3 25 (by omega), y3 26 (by omega)⟩ (fun hS => ?_)
            clear hK K
            try simp only [Act.put, List.setIfInBounds_toArray, List.set_cons_zero, List.set_cons_succ]
            refine wpAnyH_done (by kernel_rfl) ?_ _
            go_wp2_with fail
            go_meet
            exact ⟨rfl, R10, x1, x2, x3⟩
          · go_simp
            refine hK.out _ _ (by first | exact ⟨a12 _, a25 _, a26 _⟩ | exact ⟨c12, c25, c26⟩) (fun hS => ?_)
            clear hK K
            try simp only [Act.put, List.setIfInBounds_toArray, List.set_cons_zero, List.set_cons_succ]
            refine wpAnyH_ready (rs := [8]) (by kernel_rfl) (by simp) ?_
            refine AllReadyH.cons rfl (fun K hK => ?_) AllReadyH.nil
            go_simp
            go_at_call 82
            (with_reducible refine (G21.out _ (by first | exact BD | exact BAD | exact BA | exact B2)).mono ?_)
            rintro e _ ⟨rfl, rfl⟩
            refine hK.out _ _ (by first | exact ⟨c12, c25, c26⟩ | exact ⟨a12 _, a25 _, a26 _⟩) (fun hS => ?_)
            clear hK K
            try simp only [Act.put, List.setIfInBounds_toArray, List.set_cons_zero, List.set_cons_succ]
            refine wpAnyH_take (i := 9) (oi := ⟨some 37, _, _, _, _, _⟩) (v := (.int .i64 (numA xs 21 4))) rfl (by kernel_rfl) (by kernel_rfl) (by kernel_rfl) (fun _ _ _ h => h) (Or.inl ⟨by rfl, fun W hW => by (go_simp; exact IntWalk.i64_in _ (by omega))⟩) hS ?_
            try simp only [Act.put, List.setIfInBounds_toArray, List.set_cons_zero, List.set_cons_succ]
            refine wpAnyH_take (i := 16) (oi := ⟨some 44, _, _, _, _, _⟩) (v := (.agg (Rec.mk (numA xs 4 8) (one 12) (numA xs 13 8) (numA xs 21 4) (one 25) (one 26) (List.replicate 32 0) 0 0 0 0 0 0).cells.toArray)) rfl (by kernel_rfl) (by kernel_rfl) (by kernel_rfl) (fun _ _ _ h => h) (Or.inl ⟨by rfl, fun W hW => by (simp only [execOp, Sem.run_bind, Sem.run_pure, List.map_toArray, List.map_cons, List.map_nil]; exact (congrArg (fun r => r.andThen fun a w => Result.ok (Next.value a) w) (build_mid _ _ _ _ _ _ W)).trans rfl)⟩) hS ?_
            try simp only [Act.put, List.setIfInBounds_toArray, List.set_cons_zero, List.set_cons_succ]
            refine wpAnyH_ready (rs := [18]) (by kernel_rfl) (by simp) ?_
            refine AllReadyH.cons rfl (fun K hK => ?_) AllReadyH.nil
            refine step_of_list (by rfl) (fun Q9 hn => ?_)
            refine wpList_store_blk rfl _ _ _ rfl (ds := (Rec.mk (numA xs 4 8) (one 12) (numA xs 13 8) (numA xs 21 4) (one 25) (one 26) (List.replicate 32 0) 0 0 0 0 0 0).cells) zb rfl rfl rfl (by rw [Rec.cells_length _ rfl]; kernel_rfl) (Rec.cells_one _) ?_
            intro w10 R10 g10
            have x1 := q1.grown g10 (by intro e; injection e with e; omega)
            have x2 := q2.grown g10 (by intro e; injection e with e; omega)
            have x3 := BAD.trans (below_of_grown g10 BAD.size fun b hb => by injection hb with hb; have := B2.size; omega)
            have y3 := HCL.out _ x3
            refine hn _ _ ?_
            change K (Act.put _ none _) _
            clear hn
            refine hK.out _ _ ⟨y3 12 (by omega), y3 25 (by omega), y3 26 (by omega)⟩ (fun hS => ?_)
            clear hK K
            try simp only [Act.put, List.setIfInBounds_toArray, List.set_cons_zero, List.set_cons_succ]
            refine wpAnyH_done (by kernel_rfl) ?_ _
            go_wp2_with fail
            go_meet
            exact ⟨rfl, R10, x1, x2, x3⟩
        · go_simp
          refine hK.out _ _ (by first | exact ⟨a12 _, a25 _, a26 _⟩ | exact ⟨c12, c25, c26⟩) (fun hS => ?_)
          clear hK K
          try simp only [Act.put, List.setIfInBounds_toArray, List.set_cons_zero, List.set_cons_succ]
          refine wpAnyH_ready (rs := [6]) (by kernel_rfl) (by simp) ?_
          refine AllReadyH.cons rfl (fun K hK => ?_) AllReadyH.nil
          go_simp
          go_at_call 82
          (with_reducible refine (G13.out _ (by first | exact BD | exact BAD | exact BA | exact B2)).mono ?_)
          rintro e _ ⟨rfl, rfl⟩
          refine hK.out _ _ (by first | exact ⟨c12, c25, c26⟩ | exact ⟨a12 _, a25 _, a26 _⟩) (fun hS => ?_)
          clear hK K
          try simp only [Act.put, List.setIfInBounds_toArray, List.set_cons_zero, List.set_cons_succ]
          refine wpAnyH_ready (rs := [8]) (by kernel_rfl) (by simp) ?_
          refine AllReadyH.cons rfl (fun K hK => ?_) AllReadyH.nil
          go_simp
          go_at_call 82
          (with_reducible refine (G21.out _ (by first | exact BD | exact BAD | exact BA | exact B2)).mono ?_)
          rintro e _ ⟨rfl, rfl⟩
          refine hK.out _ _ (by first | exact ⟨c12, c25, c26⟩ | exact ⟨a12 _, a25 _, a26 _⟩) (fun hS => ?_)
          clear hK K
          try simp only [Act.put, List.setIfInBounds_toArray, List.set_cons_zero, List.set_cons_succ]
          refine wpAnyH_take (i := 9) (oi := ⟨some 37, _, _, _, _, _⟩) (v := (.int .i64 (numA xs 21 4))) rfl (by kernel_rfl) (by kernel_rfl) (by kernel_rfl) (fun _ _ _ h => h) (Or.inl ⟨by rfl, fun W hW => by (go_simp; exact IntWalk.i64_in _ (by omega))⟩) hS ?_
          try simp only [Act.put, List.setIfInBounds_toArray, List.set_cons_zero, List.set_cons_succ]
          refine wpAnyH_take (i := 16) (oi := ⟨some 44, _, _, _, _, _⟩) (v := (.agg (Rec.mk (numA xs 4 8) (one 12) (numA xs 13 8) (numA xs 21 4) (one 25) (one 26) (List.replicate 32 0) 0 0 0 0 0 0).cells.toArray)) rfl (by kernel_rfl) (by kernel_rfl) (by kernel_rfl) (fun _ _ _ h => h) (Or.inl ⟨by rfl, fun W hW => by (simp only [execOp, Sem.run_bind, Sem.run_pure, List.map_toArray, List.map_cons, List.map_nil]; exact (congrArg (fun r => r.andThen fun a w => Result.ok (Next.value a) w) (build_mid _ _ _ _ _ _ W)).trans rfl)⟩) hS ?_
          try simp only [Act.put, List.setIfInBounds_toArray, List.set_cons_zero, List.set_cons_succ]
          refine wpAnyH_ready (rs := [18]) (by kernel_rfl) (by simp) ?_
          refine AllReadyH.cons rfl (fun K hK => ?_) AllReadyH.nil
          refine step_of_list (by rfl) (fun Q9 hn => ?_)
          refine wpList_store_blk rfl _ _ _ rfl (ds := (Rec.mk (numA xs 4 8) (one 12) (numA xs 13 8) (numA xs 21 4) (one 25) (one 26) (List.replicate 32 0) 0 0 0 0 0 0).cells) zb rfl rfl rfl (by rw [Rec.cells_length _ rfl]; kernel_rfl) (Rec.cells_one _) ?_
          intro w10 R10 g10
          have x1 := q1.grown g10 (by intro e; injection e with e; omega)
          have x2 := q2.grown g10 (by intro e; injection e with e; omega)
          have x3 := BAD.trans (below_of_grown g10 BAD.size fun b hb => by injection hb with hb; have := B2.size; omega)
          have y3 := HCL.out _ x3
          refine hn _ _ ?_
          change K (Act.put _ none _) _
          clear hn
          refine hK.out _ _ ⟨y3 12 (by omega), y3 25 (by omega), y3 26 (by omega)⟩ (fun hS => ?_)
          clear hK K
          try simp only [Act.put, List.setIfInBounds_toArray, List.set_cons_zero, List.set_cons_succ]
          refine wpAnyH_done (by kernel_rfl) ?_ _
          go_wp2_with fail
          go_meet
          exact ⟨rfl, R10, x1, x2, x3⟩
      · go_simp
        refine hK.out _ _ (by first | exact ⟨a12 _, a25 _, a26 _⟩ | exact ⟨c12, c25, c26⟩) (fun hS => ?_)
        clear hK K
        try simp only [Act.put, List.setIfInBounds_toArray, List.set_cons_zero, List.set_cons_succ]
        refine wpAnyH_ready (rs := [1]) (by kernel_rfl) (by simp) ?_
        refine AllReadyH.cons rfl (fun K hK => ?_) AllReadyH.nil
        go_simp
        go_at_call 82
        (with_reducible refine (G4.out _ (by first | exact BD | exact BAD | exact BA | exact B2)).mono ?_)
        rintro e _ ⟨rfl, rfl⟩
        refine hK.out _ _ (by first | exact ⟨c12, c25, c26⟩ | exact ⟨a12 _, a25 _, a26 _⟩) (fun hS => ?_)
        clear hK K
        try simp only [Act.put, List.setIfInBounds_toArray, List.set_cons_zero, List.set_cons_succ]
        refine wpAnyH_ready (rs := [6]) (by kernel_rfl) (by simp) ?_
        refine AllReadyH.cons rfl (fun K hK => ?_) AllReadyH.nil
        go_simp
        go_at_call 82
        (with_reducible refine (G13.out _ (by first | exact BD | exact BAD | exact BA | exact B2)).mono ?_)
        rintro e _ ⟨rfl, rfl⟩
        refine hK.out _ _ (by first | exact ⟨c12, c25, c26⟩ | exact ⟨a12 _, a25 _, a26 _⟩) (fun hS => ?_)
        clear hK K
        try simp only [Act.put, List.setIfInBounds_toArray, List.set_cons_zero, List.set_cons_succ]
        refine wpAnyH_ready (rs := [8]) (by kernel_rfl) (by simp) ?_
        refine AllReadyH.cons rfl (fun K hK => ?_) AllReadyH.nil
        go_simp
        go_at_call 82
        (with_reducible refine (G21.out _ (by first | exact BD | exact BAD | exact BA | exact B2)).mono ?_)
        rintro e _ ⟨rfl, rfl⟩
        refine hK.out _ _ (by first | exact ⟨c12, c25, c26⟩ | exact ⟨a12 _, a25 _, a26 _⟩) (fun hS => ?_)
        clear hK K
        try simp only [Act.put, List.setIfInBounds_toArray, List.set_cons_zero, List.set_cons_succ]
        refine wpAnyH_take (i := 9) (oi := ⟨some 37, _, _, _, _, _⟩) (v := (.int .i64 (numA xs 21 4))) rfl (by kernel_rfl) (by kernel_rfl) (by kernel_rfl) (fun _ _ _ h => h) (Or.inl ⟨by rfl, fun W hW => by (go_simp; exact IntWalk.i64_in _ (by omega))⟩) hS ?_
        try simp only [Act.put, List.setIfInBounds_toArray, List.set_cons_zero, List.set_cons_succ]
        refine wpAnyH_take (i := 16) (oi := ⟨some 44, _, _, _, _, _⟩) (v := (.agg (Rec.mk (numA xs 4 8) (one 12) (numA xs 13 8) (numA xs 21 4) (one 25) (one 26) (List.replicate 32 0) 0 0 0 0 0 0).cells.toArray)) rfl (by kernel_rfl) (by kernel_rfl) (by kernel_rfl) (fun _ _ _ h => h) (Or.inl ⟨by rfl, fun W hW => by (simp only [execOp, Sem.run_bind, Sem.run_pure, List.map_toArray, List.map_cons, List.map_nil]; exact (congrArg (fun r => r.andThen fun a w => Result.ok (Next.value a) w) (build_mid _ _ _ _ _ _ W)).trans rfl)⟩) hS ?_
        try simp only [Act.put, List.setIfInBounds_toArray, List.set_cons_zero, List.set_cons_succ]
        refine wpAnyH_ready (rs := [18]) (by kernel_rfl) (by simp) ?_
        refine AllReadyH.cons rfl (fun K hK => ?_) AllReadyH.nil
        refine step_of_list (by rfl) (fun Q9 hn => ?_)
        refine wpList_store_blk rfl _ _ _ rfl (ds := (Rec.mk (numA xs 4 8) (one 12) (numA xs 13 8) (numA xs 21 4) (one 25) (one 26) (List.replicate 32 0) 0 0 0 0 0 0).cells) zb rfl rfl rfl (by rw [Rec.cells_length _ rfl]; kernel_rfl) (Rec.cells_one _) ?_
        intro w10 R10 g10
        have x1 := q1.grown g10 (by intro e; injection e with e; omega)
        have x2 := q2.grown g10 (by intro e; injection e with e; omega)
        have x3 := BAD.trans (below_of_grown g10 BAD.size fun b hb => by injection hb with hb; have := B2.size; omega)
        have y3 := HCL.out _ x3
        refine hn _ _ ?_
        change K (Act.put _ none _) _
        clear hn
        refine hK.out _ _ ⟨y3 12 (by omega), y3 25 (by omega), y3 26 (by omega)⟩ (fun hS => ?_)
        clear hK K
        try simp only [Act.put, List.setIfInBounds_toArray, List.set_cons_zero, List.set_cons_succ]
        refine wpAnyH_done (by kernel_rfl) ?_ _
        go_wp2_with fail
        go_meet
        exact ⟨rfl, R10, x1, x2, x3⟩
    case rest =>
    have hsz := B2.size
    clear BD BA BAD c12 c25 c26 a12 a25 a26 zb q1 q2 r1 r2 B2
    obtain ⟨rfl, R, r1, r2, B2⟩ := hcut
    have hgr : w.heap.size + 2 ≤ w5.heap.size := by omega
    clear l2 hsz
    generalize w5.heap.size = gr at *
    rename World => w6
    have hman : ((xs.drop 27).take 32).length = 32 := by rw [List.length_take, List.length_drop]; omega
    rw [show (List.replicate 32 0 : List Int) = manL xs 0 from (manL_zero xs).symm] at R
    go_wp2_with fail
    go_loopw [45] (fun s wx => ∃ i : Nat, i ≤ 32 ∧ s = .int .i64 i ∧ Block wx gr 50 (Rec.mk (numA xs 4 8) (one 12) (numA xs 13 8) (numA xs 21 4) (one 25) (one 26) (manL xs i) 0 0 0 0 0 0).cells.toArray ∧ Block wx w.heap.size 50 rec0.cells.toArray ∧ Block wx (w.heap.size + 1) 50 rec0.cells.toArray ∧ Below w.heap.size w wx) (fun s _ => 32 - (intOf s).toNat)
    case atStart => exact ⟨0, by omega, rfl, R, r1, r2, B2⟩
    case round =>
      clear R r1 r2 B2
      obtain ⟨i, hi, rfl, R, r1, r2, B2⟩ := hrel
      rename World => w7
      by_cases hlt : i < 32
      · have d2 : decide ((i : Int) < 32) = true := decide_eq_true (by omega)
        have d3 : decide (i < 32) = true := decide_eq_true hlt
        have z1 : IntKind.i64.wrap (27 + (i : Int)) = 27 + (i : Int) := IntWalk.i64_in _ (by omega)
        have z2 : ((27 : Int) + (i : Int)).toNat = 27 + i := by omega
        have z3 : (27 : Int) + (i : Int) < (xs.length : Int) := by omega
        have z4 : (0 : Int) ≤ 27 + (i : Int) := by omega
        have z5 : (i : Int) < 32 := by omega
        have c27 := HCL.out _ B2 (27 + i) (by omega)
        have hml := manL_length xs i hi (by omega)
        have q := (R.cell (6 + i)).trans (cells_at _ _ _ _ _ _ _ _ _ _ _ _ _ i (by omega))
        have fz := R.frozen (6 + i)
        go_wp2_with fail
        go_roundw
        case rel =>
          refine ⟨i + 1, hlt, by go_num, ?_, Block.far r1 (p := ⟨gr, 6 + i, none⟩) (by show _ ≠ gr; omega) _, Block.far r2 (p := ⟨gr, 6 + i, none⟩) (by show _ ≠ gr; omega) _, Below.setCell B2 (p := ⟨gr, 6 + i, none⟩) (by show w.heap.size ≤ gr; omega) _⟩
          have R' := Block.set_ R (6 + i) (.int .u8 (one (27 + i)))
          rw [cells_byte _ _ _ _ _ _ _ _ _ _ _ _ _ i (by omega), show one (27 + i) = xs.getD (27 + i) 0 by rw [hone'.out], manL_set xs i hlt (by omega)] at R'
          rw [hone'.out] at R' ⊢
          exact R'
        case measure => simp [intOf] <;> omega
      · obtain rfl : i = 32 := by omega
        rw [manL_all] at R
        have HMY := Lib.hid (fun W => rmay_any (recOf xs) (recOf_ok xs ho (by omega)) W)
        have HFL : Hid ((recOf xs).cells.length = 44) := Lib.hid (Rec.cells_length _ hman)
        have HFO := Lib.hid (recOf xs).cells_one
        obtain ⟨my, hmy⟩ : ∃ my : Bool, (recOf xs).may = my := ⟨_, rfl⟩
        rw [hmy] at HMY HE'
        clear hmy
        have d2 : decide ((32 : Int) < 32) = false := by decide
        obtain ⟨k0, k1, k2, k3, k4, k5⟩ := RecAt.back (r := (Rec.mk (numA xs 4 8) (one 12) (numA xs 13 8) (numA xs 21 4) (one 25) (one 26) ((xs.drop 27).take 32) 0 0 0 0 0 0)) R hman
        have fz := fun i => R.frozen i
        have A59 := True.intro
        have A67 := True.intro
        have A71 := True.intro
        have A75 := True.intro
        have A83 := True.intro
        have A87 := True.intro
        simp only [show ((32 : Nat) : Int) = 32 from rfl]
        cases my with
        | false =>
          rw [if_neg (by decide)] at HE'
          rw [HE'.out, if_neg (by decide)] at HV
          go_wp2_with (first
          | (have _t := A59; go_at_call 82; (with_reducible refine (G59.out _ B2).mono ?_); clear _t A59; rintro e _ ⟨rfl, rfl⟩; replace R := Block.set_ R 38 (.int .u64 (numA xs 59 8)); rw [cells_set38 _ hman] at R; replace R : Block _ gr 50 (Rec.mk (numA xs 4 8) (one 12) (numA xs 13 8) (numA xs 21 4) (one 25) (one 26) ((xs.drop 27).take 32) (numA xs 59 8) 0 0 0 0 0).cells.toArray := R; replace r1 := Block.far r1 (p := ⟨gr, 38, none⟩) (by show _ ≠ gr; omega) (.int .u64 (numA xs 59 8)); replace r2 := Block.far r2 (p := ⟨gr, 38, none⟩) (by show _ ≠ gr; omega) (.int .u64 (numA xs 59 8)); replace B2 := Below.setCell B2 (p := ⟨gr, 38, none⟩) (by show w.heap.size ≤ gr; omega) (.int .u64 (numA xs 59 8)))
          | (have _t := A67; go_at_call 82; (with_reducible refine (G67.out _ B2).mono ?_); clear _t A67; rintro e _ ⟨rfl, rfl⟩; replace R := Block.set_ R 39 (.int .i64 (numA xs 67 4)); rw [cells_set39 _ hman] at R; replace R : Block _ gr 50 (Rec.mk (numA xs 4 8) (one 12) (numA xs 13 8) (numA xs 21 4) (one 25) (one 26) ((xs.drop 27).take 32) (numA xs 59 8) (numA xs 67 4) 0 0 0 0).cells.toArray := R; replace r1 := Block.far r1 (p := ⟨gr, 39, none⟩) (by show _ ≠ gr; omega) (.int .i64 (numA xs 67 4)); replace r2 := Block.far r2 (p := ⟨gr, 39, none⟩) (by show _ ≠ gr; omega) (.int .i64 (numA xs 67 4)); replace B2 := Below.setCell B2 (p := ⟨gr, 39, none⟩) (by show w.heap.size ≤ gr; omega) (.int .i64 (numA xs 67 4)))
          | (have _t := A71; go_at_call 82; (with_reducible refine (G71.out _ B2).mono ?_); clear _t A71; rintro e _ ⟨rfl, rfl⟩; replace R := Block.set_ R 40 (.int .i64 (numA xs 71 4)); rw [cells_set40 _ hman] at R; replace R : Block _ gr 50 (Rec.mk (numA xs 4 8) (one 12) (numA xs 13 8) (numA xs 21 4) (one 25) (one 26) ((xs.drop 27).take 32) (numA xs 59 8) (numA xs 67 4) (numA xs 71 4) 0 0 0).cells.toArray := R; replace r1 := Block.far r1 (p := ⟨gr, 40, none⟩) (by show _ ≠ gr; omega) (.int .i64 (numA xs 71 4)); replace r2 := Block.far r2 (p := ⟨gr, 40, none⟩) (by show _ ≠ gr; omega) (.int .i64 (numA xs 71 4)); replace B2 := Below.setCell B2 (p := ⟨gr, 40, none⟩) (by show w.heap.size ≤ gr; omega) (.int .i64 (numA xs 71 4)))
          | (have _t := A75; go_at_call 82; (with_reducible refine (G75.out _ B2).mono ?_); clear _t A75; rintro e _ ⟨rfl, rfl⟩; replace R := Block.set_ R 41 (.int .u64 (numA xs 75 8)); rw [cells_set41 _ hman] at R; replace R : Block _ gr 50 (Rec.mk (numA xs 4 8) (one 12) (numA xs 13 8) (numA xs 21 4) (one 25) (one 26) ((xs.drop 27).take 32) (numA xs 59 8) (numA xs 67 4) (numA xs 71 4) (numA xs 75 8) 0 0).cells.toArray := R; replace r1 := Block.far r1 (p := ⟨gr, 41, none⟩) (by show _ ≠ gr; omega) (.int .u64 (numA xs 75 8)); replace r2 := Block.far r2 (p := ⟨gr, 41, none⟩) (by show _ ≠ gr; omega) (.int .u64 (numA xs 75 8)); replace B2 := Below.setCell B2 (p := ⟨gr, 41, none⟩) (by show w.heap.size ≤ gr; omega) (.int .u64 (numA xs 75 8)))
          | (have _t := A83; go_at_call 82; (with_reducible refine (G83.out _ B2).mono ?_); clear _t A83; rintro e _ ⟨rfl, rfl⟩; replace R := Block.set_ R 42 (.int .i64 (numA xs 83 4)); rw [cells_set42 _ hman] at R; replace R : Block _ gr 50 (Rec.mk (numA xs 4 8) (one 12) (numA xs 13 8) (numA xs 21 4) (one 25) (one 26) ((xs.drop 27).take 32) (numA xs 59 8) (numA xs 67 4) (numA xs 71 4) (numA xs 75 8) (numA xs 83 4) 0).cells.toArray := R; replace r1 := Block.far r1 (p := ⟨gr, 42, none⟩) (by show _ ≠ gr; omega) (.int .i64 (numA xs 83 4)); replace r2 := Block.far r2 (p := ⟨gr, 42, none⟩) (by show _ ≠ gr; omega) (.int .i64 (numA xs 83 4)); replace B2 := Below.setCell B2 (p := ⟨gr, 42, none⟩) (by show w.heap.size ≤ gr; omega) (.int .i64 (numA xs 83 4)))
          | (have _t := A87; go_at_call 82; (with_reducible refine (G87.out _ B2).mono ?_); clear _t A87; rintro e _ ⟨rfl, rfl⟩; replace R := Block.set_ R 43 (.int .i64 (numA xs 87 4)); rw [cells_set43 _ hman] at R; replace R : Block _ gr 50 (Rec.mk (numA xs 4 8) (one 12) (numA xs 13 8) (numA xs 21 4) (one 25) (one 26) ((xs.drop 27).take 32) (numA xs 59 8) (numA xs 67 4) (numA xs 71 4) (numA xs 75 8) (numA xs 83 4) (numA xs 87 4)).cells.toArray := R; replace r1 := Block.far r1 (p := ⟨gr, 43, none⟩) (by show _ ≠ gr; omega) (.int .i64 (numA xs 87 4)); replace r2 := Block.far r2 (p := ⟨gr, 43, none⟩) (by show _ ≠ gr; omega) (.int .i64 (numA xs 87 4)); replace B2 := Below.setCell B2 (p := ⟨gr, 43, none⟩) (by show w.heap.size ≤ gr; omega) (.int .i64 (numA xs 87 4)))
          | (have _t := R; refine wpList_load_midV (by rfl) _ _ rfl gr 0 rfl (recOf xs).cells (block_range (by rw [HMR.out]; with_reducible exact R)) Tryd.underlying50 rfl (by rw [HFL.out]; kernel_rfl) ?_)
          | (go_at_call 22; (with_reducible refine (HMY.out _).mono ?_); rintro e w12 ⟨rfl, hb12⟩; have R12 := Block.below R hb12 (Block.lt R); have N12 : Block w12 w.heap.size 50 rec0.cells.toArray := Block.below r1 hb12 (Block.lt r1); have O12 : Block w12 (w.heap.size + 1) 50 rec0.cells.toArray := Block.below r2 hb12 (Block.lt r2); have B12 := B2.trans (hb12.mono B2.size); clear R r1 r2 B2 hb12)
          | (have _t := O12; refine wpList_load_midV (by rfl) _ _ rfl (w.heap.size + 1) 0 rfl rec0.cells (block_range O12) Tryd.underlying50 rfl (by rw [HL0.out]; kernel_rfl) ?_)
          | (have _t := N12; refine wpList_store_blk rfl _ _ _ rfl (ds := rec0.cells) N12 rfl rfl (by simp) (by rw [HL0.out]; kernel_rfl) HO0.out ?_; intro w9 r9 g9))
          refine bodyPost_ret (v := .tuple #[.agg rec0.cells.toArray, .int .i64 3]) (results_row_tmp rfl _ _ w.heap.size 50 _ (0, 0) _ rfl r9 _ rfl Tryd.underlying50 rfl (by rw [show rec0.cells.toArray.size = 44 from HL0.out]; kernel_rfl)) rfl ⟨?_, ?_⟩
          · rw [HE'.out, HV.out]
          exact B12.trans (below_of_grown g9 B12.size fun b hb => by injection hb with hb; omega)
        | true =>
          rw [if_pos rfl] at HE'
          rw [HE'.out, if_pos rfl] at HV
          go_wp2_with (first
          | (have _t := A59; go_at_call 82; (with_reducible refine (G59.out _ B2).mono ?_); clear _t A59; rintro e _ ⟨rfl, rfl⟩; replace R := Block.set_ R 38 (.int .u64 (numA xs 59 8)); rw [cells_set38 _ hman] at R; replace R : Block _ gr 50 (Rec.mk (numA xs 4 8) (one 12) (numA xs 13 8) (numA xs 21 4) (one 25) (one 26) ((xs.drop 27).take 32) (numA xs 59 8) 0 0 0 0 0).cells.toArray := R; replace r1 := Block.far r1 (p := ⟨gr, 38, none⟩) (by show _ ≠ gr; omega) (.int .u64 (numA xs 59 8)); replace r2 := Block.far r2 (p := ⟨gr, 38, none⟩) (by show _ ≠ gr; omega) (.int .u64 (numA xs 59 8)); replace B2 := Below.setCell B2 (p := ⟨gr, 38, none⟩) (by show w.heap.size ≤ gr; omega) (.int .u64 (numA xs 59 8)))
          | (have _t := A67; go_at_call 82; (with_reducible refine (G67.out _ B2).mono ?_); clear _t A67; rintro e _ ⟨rfl, rfl⟩; replace R := Block.set_ R 39 (.int .i64 (numA xs 67 4)); rw [cells_set39 _ hman] at R; replace R : Block _ gr 50 (Rec.mk (numA xs 4 8) (one 12) (numA xs 13 8) (numA xs 21 4) (one 25) (one 26) ((xs.drop 27).take 32) (numA xs 59 8) (numA xs 67 4) 0 0 0 0).cells.toArray := R; replace r1 := Block.far r1 (p := ⟨gr, 39, none⟩) (by show _ ≠ gr; omega) (.int .i64 (numA xs 67 4)); replace r2 := Block.far r2 (p := ⟨gr, 39, none⟩) (by show _ ≠ gr; omega) (.int .i64 (numA xs 67 4)); replace B2 := Below.setCell B2 (p := ⟨gr, 39, none⟩) (by show w.heap.size ≤ gr; omega) (.int .i64 (numA xs 67 4)))
          | (have _t := A71; go_at_call 82; (with_reducible refine (G71.out _ B2).mono ?_); clear _t A71; rintro e _ ⟨rfl, rfl⟩; replace R := Block.set_ R 40 (.int .i64 (numA xs 71 4)); rw [cells_set40 _ hman] at R; replace R : Block _ gr 50 (Rec.mk (numA xs 4 8) (one 12) (numA xs 13 8) (numA xs 21 4) (one 25) (one 26) ((xs.drop 27).take 32) (numA xs 59 8) (numA xs 67 4) (numA xs 71 4) 0 0 0).cells.toArray := R; replace r1 := Block.far r1 (p := ⟨gr, 40, none⟩) (by show _ ≠ gr; omega) (.int .i64 (numA xs 71 4)); replace r2 := Block.far r2 (p := ⟨gr, 40, none⟩) (by show _ ≠ gr; omega) (.int .i64 (numA xs 71 4)); replace B2 := Below.setCell B2 (p := ⟨gr, 40, none⟩) (by show w.heap.size ≤ gr; omega) (.int .i64 (numA xs 71 4)))
          | (have _t := A75; go_at_call 82; (with_reducible refine (G75.out _ B2).mono ?_); clear _t A75; rintro e _ ⟨rfl, rfl⟩; replace R := Block.set_ R 41 (.int .u64 (numA xs 75 8)); rw [cells_set41 _ hman] at R; replace R : Block _ gr 50 (Rec.mk (numA xs 4 8) (one 12) (numA xs 13 8) (numA xs 21 4) (one 25) (one 26) ((xs.drop 27).take 32) (numA xs 59 8) (numA xs 67 4) (numA xs 71 4) (numA xs 75 8) 0 0).cells.toArray := R; replace r1 := Block.far r1 (p := ⟨gr, 41, none⟩) (by show _ ≠ gr; omega) (.int .u64 (numA xs 75 8)); replace r2 := Block.far r2 (p := ⟨gr, 41, none⟩) (by show _ ≠ gr; omega) (.int .u64 (numA xs 75 8)); replace B2 := Below.setCell B2 (p := ⟨gr, 41, none⟩) (by show w.heap.size ≤ gr; omega) (.int .u64 (numA xs 75 8)))
          | (have _t := A83; go_at_call 82; (with_reducible refine (G83.out _ B2).mono ?_); clear _t A83; rintro e _ ⟨rfl, rfl⟩; replace R := Block.set_ R 42 (.int .i64 (numA xs 83 4)); rw [cells_set42 _ hman] at R; replace R : Block _ gr 50 (Rec.mk (numA xs 4 8) (one 12) (numA xs 13 8) (numA xs 21 4) (one 25) (one 26) ((xs.drop 27).take 32) (numA xs 59 8) (numA xs 67 4) (numA xs 71 4) (numA xs 75 8) (numA xs 83 4) 0).cells.toArray := R; replace r1 := Block.far r1 (p := ⟨gr, 42, none⟩) (by show _ ≠ gr; omega) (.int .i64 (numA xs 83 4)); replace r2 := Block.far r2 (p := ⟨gr, 42, none⟩) (by show _ ≠ gr; omega) (.int .i64 (numA xs 83 4)); replace B2 := Below.setCell B2 (p := ⟨gr, 42, none⟩) (by show w.heap.size ≤ gr; omega) (.int .i64 (numA xs 83 4)))
          | (have _t := A87; go_at_call 82; (with_reducible refine (G87.out _ B2).mono ?_); clear _t A87; rintro e _ ⟨rfl, rfl⟩; replace R := Block.set_ R 43 (.int .i64 (numA xs 87 4)); rw [cells_set43 _ hman] at R; replace R : Block _ gr 50 (Rec.mk (numA xs 4 8) (one 12) (numA xs 13 8) (numA xs 21 4) (one 25) (one 26) ((xs.drop 27).take 32) (numA xs 59 8) (numA xs 67 4) (numA xs 71 4) (numA xs 75 8) (numA xs 83 4) (numA xs 87 4)).cells.toArray := R; replace r1 := Block.far r1 (p := ⟨gr, 43, none⟩) (by show _ ≠ gr; omega) (.int .i64 (numA xs 87 4)); replace r2 := Block.far r2 (p := ⟨gr, 43, none⟩) (by show _ ≠ gr; omega) (.int .i64 (numA xs 87 4)); replace B2 := Below.setCell B2 (p := ⟨gr, 43, none⟩) (by show w.heap.size ≤ gr; omega) (.int .i64 (numA xs 87 4)))
          | (have _t := R; refine wpList_load_midV (by rfl) _ _ rfl gr 0 rfl (recOf xs).cells (block_range (by rw [HMR.out]; with_reducible exact R)) Tryd.underlying50 rfl (by rw [HFL.out]; kernel_rfl) ?_)
          | (go_at_call 22; (with_reducible refine (HMY.out _).mono ?_); rintro e w12 ⟨rfl, hb12⟩; have R12 := Block.below R hb12 (Block.lt R); have N12 : Block w12 w.heap.size 50 rec0.cells.toArray := Block.below r1 hb12 (Block.lt r1); have O12 : Block w12 (w.heap.size + 1) 50 rec0.cells.toArray := Block.below r2 hb12 (Block.lt r2); have B12 := B2.trans (hb12.mono B2.size); clear R r1 r2 B2 hb12)
          | (have _t := R12; refine wpList_load_midV (by rfl) _ _ rfl gr 0 rfl (recOf xs).cells (block_range (by rw [HMR.out]; with_reducible exact R12)) Tryd.underlying50 rfl (by rw [HFL.out]; kernel_rfl) ?_)
          | (have _t := N12; refine wpList_store_blk rfl _ _ _ rfl (ds := (recOf xs).cells) N12 rfl rfl (by rw [HFL.out]; rfl) (by rw [HFL.out]; kernel_rfl) HFO.out ?_; intro w9 r9 g9))
          refine bodyPost_ret (v := .tuple #[.agg (recOf xs).cells.toArray, .int .i64 0]) (results_row_tmp rfl _ _ w.heap.size 50 _ (0, 0) _ rfl r9 _ rfl Tryd.underlying50 rfl (by rw [show (recOf xs).cells.toArray.size = 44 from HFL.out]; kernel_rfl)) rfl ⟨?_, ?_⟩
          · rw [HE'.out, HV.out]
          exact B12.trans (below_of_grown g9 B12.size fun b hb => by injection hb with hb; omega)
end Go.Proofs.YtpnodocjpedcmaaDoor.Jr
