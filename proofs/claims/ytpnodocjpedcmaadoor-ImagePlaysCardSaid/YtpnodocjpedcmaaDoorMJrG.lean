/-
  Layer 24, journal: Get: contract. Conditions: as each theorem names.
-/
import Derived.Test.YtpnodocjpedcmaaDoorMGIays14
import Derived.Test.YtpnodocjpedcmaaDoorMGIays0
import Derived.Laws.Strings
namespace Go.Proofs.YtpnodocjpedcmaaDoor.Jr
open Go.ChangeShapes Go.WideShapes Go.ChangeAt Go.RowKit Go.Proofs.YtpnodocjpedcmaaDoor.Kit Go.Proofs.YtpnodocjpedcmaaDoor.Oct
open Go.Proofs.YtpnodocjpedcmaaDoor.Sha (LaidS sumL sumL_length sumL_octets)

theorem str_beq {xs ys : List Int} (hx : Octets xs) (hy : Octets ys) : ((strOfNums xs).toList == (strOfNums ys).toList) = decide (xs = ys) := by
  by_cases h : xs = ys
  · subst h; simp
  · rw [decide_eq_false h, beq_eq_false_iff_ne]
    intro e
    apply h
    apply strOfNums_inj hx hy
    rw [ByteArray.toList_eq, ByteArray.toList_eq] at e
    exact ByteArray.ext (Array.ext' e)

/-- The record that bytes tell. -/
def recOf (xs : List Int) : Rec :=
  ⟨numA xs 4 8, xs.getD 12 0, numA xs 13 8, numA xs 21 4, xs.getD 25 0, xs.getD 26 0, (xs.drop 27).take 32, numA xs 59 8, numA xs 67 4, numA xs 71 4, numA xs 75 8, numA xs 83 4, numA xs 87 4⟩
theorem recOf_ok (xs : List Int) (ho : Octets xs) (h : 99 ≤ xs.length) : (recOf xs).Ok := by
  have one : ∀ p, 0 ≤ xs.getD p 0 ∧ xs.getD p 0 ≤ 255 := fun p => by have := ho.at_ p; simpa [List.getD] using this
  have n4 := fun (p : Nat) (hp : p + 4 ≤ 99) => numA_four xs p ho (by omega)
  have n8 := fun (p : Nat) (hp : p + 8 ≤ 99) => numA_eight xs p ho (by omega)
  exact ⟨n8 4 (by decide), one 12, n8 13 (by decide), by have := n4 21 (by decide); show _ ≤ numA xs 21 4 ∧ numA xs 21 4 ≤ _; omega, one 25, one 26, by show ((xs.drop 27).take 32).length = 32; rw [List.length_take, List.length_drop]; omega, (ho.tail 27).head 32, n8 59 (by decide),
    by have := n4 67 (by decide); show _ ≤ numA xs 67 4 ∧ numA xs 67 4 ≤ _; omega, by have := n4 71 (by decide); show _ ≤ numA xs 71 4 ∧ numA xs 71 4 ≤ _; omega, n8 75 (by decide),
    by have := n4 83 (by decide); show _ ≤ numA xs 83 4 ∧ numA xs 83 4 ≤ _; omega, by have := n4 87 (by decide); show _ ≤ numA xs 87 4 ∧ numA xs 87 4 ≤ _; omega⟩
/-- The error of bytes. -/
def getE (xs : List Int) : Int :=
  if xs.length < 99 then 2 else if xs.take 4 ≠ [74, 82, 78, 76] then 3 else if (xs.drop 91).take 8 ≠ (sumL (xs.take 91)).take 8 then 10 else if (recOf xs).may then 0 else 3
def getV (xs : List Int) : Rec := if getE xs = 0 then recOf xs else rec0

def GetsR (r : Rec) (E : Int) (w : World) (e : Ending) (w' : World) : Prop := e = .returned (.tuple #[.agg r.cells.toArray, .int .i64 E]) ∧ Below w.heap.size w w'

set_option maxRecDepth 100000 in
set_option maxHeartbeats 6400000 in
theorem jget_any (A : Option Addr) (xs : List Int) (c : Nat) (w : World) (hc : xs.length ≤ c) (hm : c ≤ maxLen) (hl : xs.length ≤ 1000) (ho : Octets xs) (hr : Holds w w.heap.size .u8 A xs) (hL : LaidS w) :
    Calls Tryd.prog 50 #[.slice A xs.length c] w (GetsR (getV xs) (getE xs) w) := by
  have HB := Lib.hid zero_build
  have HL0 := Lib.hid (rec0.cells_length rfl)
  have HO0 := Lib.hid rec0.cells_one
  have B1 := below_last w (.cells #[.slice A xs.length c] 22)
  have B2 := B1.alloc B1.size (.cells #[.int .u64 0, .int .u8 0, .int .u64 0, .int .i64 0, .int .u8 0, .int .u8 0, .int .u8 0, .int .u8 0, .int .u8 0, .int .u8 0, .int .u8 0, .int .u8 0, .int .u8 0, .int .u8 0, .int .u8 0, .int .u8 0, .int .u8 0, .int .u8 0, .int .u8 0, .int .u8 0, .int .u8 0, .int .u8 0, .int .u8 0, .int .u8 0, .int .u8 0, .int .u8 0, .int .u8 0, .int .u8 0, .int .u8 0, .int .u8 0, .int .u8 0, .int .u8 0, .int .u8 0, .int .u8 0, .int .u8 0, .int .u8 0, .int .u8 0, .int .u8 0, .int .u64 0, .int .i64 0, .int .i64 0, .int .u64 0, .int .i64 0, .int .i64 0] 50)
  have r2 : Block ((w.alloc (.cells #[.slice A xs.length c] 22)).alloc (.cells #[.int .u64 0, .int .u8 0, .int .u64 0, .int .i64 0, .int .u8 0, .int .u8 0, .int .u8 0, .int .u8 0, .int .u8 0, .int .u8 0, .int .u8 0, .int .u8 0, .int .u8 0, .int .u8 0, .int .u8 0, .int .u8 0, .int .u8 0, .int .u8 0, .int .u8 0, .int .u8 0, .int .u8 0, .int .u8 0, .int .u8 0, .int .u8 0, .int .u8 0, .int .u8 0, .int .u8 0, .int .u8 0, .int .u8 0, .int .u8 0, .int .u8 0, .int .u8 0, .int .u8 0, .int .u8 0, .int .u8 0, .int .u8 0, .int .u8 0, .int .u8 0, .int .u64 0, .int .i64 0, .int .i64 0, .int .u64 0, .int .i64 0, .int .i64 0] 50)) (w.heap.size + 1) 50 rec0.cells.toArray := by
    have : Block _ _ _ rec0.cells.toArray := Block.new (w.alloc (.cells #[.slice A xs.length c] 22)) 50 #[.int .u64 0, .int .u8 0, .int .u64 0, .int .i64 0, .int .u8 0, .int .u8 0, .int .u8 0, .int .u8 0, .int .u8 0, .int .u8 0, .int .u8 0, .int .u8 0, .int .u8 0, .int .u8 0, .int .u8 0, .int .u8 0, .int .u8 0, .int .u8 0, .int .u8 0, .int .u8 0, .int .u8 0, .int .u8 0, .int .u8 0, .int .u8 0, .int .u8 0, .int .u8 0, .int .u8 0, .int .u8 0, .int .u8 0, .int .u8 0, .int .u8 0, .int .u8 0, .int .u8 0, .int .u8 0, .int .u8 0, .int .u8 0, .int .u8 0, .int .u8 0, .int .u64 0, .int .i64 0, .int .i64 0, .int .u64 0, .int .i64 0, .int .i64 0]
    rwa [show (w.alloc (.cells #[.slice A xs.length c] 22)).heap.size = w.heap.size + 1 by simp] at this
  have r1 : Block ((w.alloc (.cells #[.slice A xs.length c] 22)).alloc (.cells #[.int .u64 0, .int .u8 0, .int .u64 0, .int .i64 0, .int .u8 0, .int .u8 0, .int .u8 0, .int .u8 0, .int .u8 0, .int .u8 0, .int .u8 0, .int .u8 0, .int .u8 0, .int .u8 0, .int .u8 0, .int .u8 0, .int .u8 0, .int .u8 0, .int .u8 0, .int .u8 0, .int .u8 0, .int .u8 0, .int .u8 0, .int .u8 0, .int .u8 0, .int .u8 0, .int .u8 0, .int .u8 0, .int .u8 0, .int .u8 0, .int .u8 0, .int .u8 0, .int .u8 0, .int .u8 0, .int .u8 0, .int .u8 0, .int .u8 0, .int .u8 0, .int .u64 0, .int .i64 0, .int .i64 0, .int .u64 0, .int .i64 0, .int .i64 0] 50)) w.heap.size 22 #[.slice A xs.length c] := Block.alloc (Block.new w _ _) _
  have hr2 := hr.below B2
  have HE : Hid (getE xs = if xs.length < 99 then 2 else if xs.take 4 ≠ [74, 82, 78, 76] then 3 else if (xs.drop 91).take 8 ≠ (sumL (xs.take 91)).take 8 then 10 else if (recOf xs).may then 0 else 3) := Lib.hid rfl
  have HV : Hid (getV xs = if getE xs = 0 then recOf xs else rec0) := Lib.hid rfl
  by_cases h99 : xs.length < 99
  · have d1 : decide ((xs.length : Int) < 99) = true := decide_eq_true (by omega)
    rw [if_pos h99] at HE
    rw [HE.out, if_neg (by decide)] at HV
    rw [HE.out, HV.out]
    clear HE HV
    go_enter Tryd.func50, Tryd.ntmps50
    go_wp2_with (first
      | (refine wpList_build_known rfl _ _ rfl (.agg rec0.cells.toArray) ?_ ?_; (intro W; have hw9 := HB.out W; simpa [Act.eval] using hw9))
      | (have _t := r2; refine wpList_store_blk rfl _ _ _ rfl (ds := rec0.cells) r2 rfl rfl (by simp) (by rw [HL0.out]; kernel_rfl) HO0.out ?_; intro w9 r9 g9))
    refine bodyPost_ret (v := .tuple #[.agg rec0.cells.toArray, .int .i64 2]) (results_row_tmp rfl _ _ (w.heap.size + 1) 50 _ (0, 0) _ rfl r9 _ rfl Tryd.underlying50 rfl (by rw [show rec0.cells.toArray.size = 44 from HL0.out]; kernel_rfl)) rfl ⟨rfl, ?_⟩
    exact B2.trans (below_of_grown g9 B2.size fun b hb => by injection hb with hb; omega)
  obtain ⟨b, off, rfl, hb, hcl⟩ := hr (by omega)
  have d1 : decide ((xs.length : Int) < 99) = false := decide_eq_false (by omega)
  rw [if_neg h99] at HE
  have l4 : (xs.take 4).length = 4 := by rw [List.length_take]; omega
  have f3 := conv_bytes Tryd.underlying22 Tryd.underlying5 Tryd.underlying9 ((w.alloc (.cells #[.slice (some ⟨b, off, none⟩) xs.length c] 22)).alloc (.cells #[.int .u64 0, .int .u8 0, .int .u64 0, .int .i64 0, .int .u8 0, .int .u8 0, .int .u8 0, .int .u8 0, .int .u8 0, .int .u8 0, .int .u8 0, .int .u8 0, .int .u8 0, .int .u8 0, .int .u8 0, .int .u8 0, .int .u8 0, .int .u8 0, .int .u8 0, .int .u8 0, .int .u8 0, .int .u8 0, .int .u8 0, .int .u8 0, .int .u8 0, .int .u8 0, .int .u8 0, .int .u8 0, .int .u8 0, .int .u8 0, .int .u8 0, .int .u8 0, .int .u8 0, .int .u8 0, .int .u8 0, .int .u8 0, .int .u8 0, .int .u8 0, .int .u64 0, .int .i64 0, .int .i64 0, .int .u64 0, .int .i64 0, .int .i64 0] 50)) (some ⟨b, off, none⟩) (xs.take 4) c _ (hr2.prefix_ 4)
  rw [l4] at f3
  have hs4 : ((strOfNums (xs.take 4)).toList == [74, 82, 78, 76]) = decide (xs.take 4 = [74, 82, 78, 76]) := by
    have := str_beq (ho.head 4) (ys := [74, 82, 78, 76]) (by intro x hx; simp at hx; omega)
    rwa [show (strOfNums [74, 82, 78, 76]).toList = [74, 82, 78, 76] by rw [ByteArray.toList_eq]; decide] at this
  have i4 : (4 : Int) ≤ (xs.length : Int) := by omega
  by_cases h4 : ¬ xs.take 4 = [74, 82, 78, 76]
  · rw [if_pos h4] at HE
    rw [HE.out, if_neg (by decide)] at HV
    rw [HE.out, HV.out]
    rw [decide_eq_false h4] at hs4
    generalize strOfNums (xs.take 4) = s4 at *
    clear HE HV h4 hcl l4
    go_enter Tryd.func50, Tryd.ntmps50
    go_wp2_with (first
      | (refine wpList_build_known rfl _ _ rfl (.agg rec0.cells.toArray) ?_ ?_; (intro W; have hw9 := HB.out W; simpa [Act.eval] using hw9))
      | (have _t := r2; refine wpList_store_blk rfl _ _ _ rfl (ds := rec0.cells) r2 rfl rfl (by simp) (by rw [HL0.out]; kernel_rfl) HO0.out ?_; intro w9 r9 g9))
    refine bodyPost_ret (v := .tuple #[.agg rec0.cells.toArray, .int .i64 3]) (results_row_tmp rfl _ _ (w.heap.size + 1) 50 _ (0, 0) _ rfl r9 _ rfl Tryd.underlying50 rfl (by rw [show rec0.cells.toArray.size = 44 from HL0.out]; kernel_rfl)) rfl ⟨rfl, ?_⟩
    exact B2.trans (below_of_grown g9 B2.size fun b hb => by injection hb with hb; omega)
  have h4' := Decidable.not_not.1 h4
  rw [if_neg h4] at HE
  rw [decide_eq_true h4'] at hs4
  have l91 : (xs.take 91).length = 91 := by rw [List.length_take]; omega
  have l8 : ((xs.drop 91).take 8).length = 8 := by rw [List.length_take, List.length_drop]; omega
  have GS : Hid (∀ W, Below w.heap.size w W → Calls Tryd.prog 72 #[.slice (some ⟨b, off, none⟩) 91 c] W fun e w' => ∃ v, e = .returned v ∧ Own w' W.heap.size 5 .u8 v ((sumL (xs.take 91)).take 8) ∧ Below W.heap.size W w') :=
    Lib.hid (fun W hB => by
      have := sum8_any (some ⟨b, off, none⟩) (xs.take 91) c W (by omega) (by omega) hm (ho.head 91) (((hr.below hB).more hB.size).prefix_ 91) (hL.below hB)
      rwa [l91] at this)
  have HC : Hid (∀ W, Below w.heap.size w W → (convert 22 9 (.slice (some ⟨b, off + 91, none⟩) 8 (c - 91))).run Tryd.prog W = .ok (.string (strOfNums ((xs.drop 91).take 8))) W) :=
    Lib.hid (fun W hB => by
      have := conv_bytes Tryd.underlying22 Tryd.underlying5 Tryd.underlying9 W (some ⟨b, off + 91, none⟩) ((xs.drop 91).take 8) (c - 91) _ ((hr.below hB).sub 91 8 (by omega))
      rwa [l8] at this)
  have HQ := Lib.hid (str_beq ((ho.tail 91).head 8) ((sumL_octets (xs.take 91)).head 8))
  obtain ⟨bq, hbq⟩ : ∃ bq : Bool, decide ((xs.drop 91).take 8 = (sumL (xs.take 91)).take 8) = bq := ⟨_, rfl⟩
  rw [hbq] at HQ
  have hys8 : Hid (((sumL (xs.take 91)).take 8).length = 8) := Lib.hid (by rw [List.length_take, sumL_length]; rfl)
  have HE' : Hid (getE xs = if bq = false then 10 else if (recOf xs).may then 0 else 3) := by
    refine Lib.hid (HE.out.trans ?_)
    cases bq with
    | true => rw [if_neg (not_not_intro (of_decide_eq_true hbq))]; exact (if_neg (by decide)).symm
    | false => rw [if_pos (of_decide_eq_false hbq), if_pos rfl]
  generalize (sumL (xs.take 91)).take 8 = ys at *
  generalize strOfNums ((xs.drop 91).take 8) = s18 at *
  generalize strOfNums (xs.take 4) = s4 at *
  clear HE hbq l91 l8 h4 h4' l4 d1
  have d1 : decide ((xs.length : Int) < 99) = false := decide_eq_false (by omega)
  have j91 : (91 : Int) ≤ (xs.length : Int) := by omega
  have j99 : (99 : Int) ≤ (c : Int) := by omega
  have k91 : (91 : Int) ≤ (c : Int) := by omega
  have kc : ¬ c = 91 := by omega
  go_enter Tryd.func50, Tryd.ntmps50
  go_wp2_with fail
  generalize ((w.alloc (.cells #[.slice (some ⟨b, off, none⟩) xs.length c] 22)).alloc (.cells #[.int .u64 0, .int .u8 0, .int .u64 0, .int .i64 0, .int .u8 0, .int .u8 0, .int .u8 0, .int .u8 0, .int .u8 0, .int .u8 0, .int .u8 0, .int .u8 0, .int .u8 0, .int .u8 0, .int .u8 0, .int .u8 0, .int .u8 0, .int .u8 0, .int .u8 0, .int .u8 0, .int .u8 0, .int .u8 0, .int .u8 0, .int .u8 0, .int .u8 0, .int .u8 0, .int .u8 0, .int .u8 0, .int .u8 0, .int .u8 0, .int .u8 0, .int .u8 0, .int .u8 0, .int .u8 0, .int .u8 0, .int .u8 0, .int .u8 0, .int .u8 0, .int .u64 0, .int .i64 0, .int .i64 0, .int .u64 0, .int .i64 0, .int .i64 0] 50)) = w2 at *
  have BD : Below w.heap.size w w2.drew := ⟨B2.os, B2.tape, B2.output, B2.size, B2.block⟩
  have b1 : w2.cell? ⟨w.heap.size, 0, none⟩ = some (.slice (some ⟨b, off, none⟩) xs.length c) := r1.cell 0
  have f18 := HC.out _ BD
  have f18w := HC.out _ B2
  go_cut [23] (fun v wx => v = .bool (!bq) ∧ Block wx w.heap.size 22 #[.slice (some ⟨b, off, none⟩) xs.length c] ∧ Block wx (w.heap.size + 1) 50 rec0.cells.toArray ∧ Below w.heap.size w wx)
  case first =>
    go_region_law (go_simp; go_at_call 72; (with_reducible refine (GS.out _ BD).mono ?_); rintro e w3 ⟨v3, rfl, own3, hb3⟩; have B3 := BD.trans (hb3.mono BD.size); obtain ⟨A8, c8, rfl, k8, m8, h8⟩ := own3.opened; have f22 := conv_bytes Tryd.underlying22 Tryd.underlying5 Tryd.underlying9 w3 A8 ys c8 _ h8; have f18' := HC.out _ B3; have hq := HQ.out; have r1' := Block.below (show Block w2.drew _ _ _ from r1) hb3 (Block.lt r1); have r2' := Block.below (show Block w2.drew _ _ _ from r2) hb3 (Block.lt r2); have b1' : w3.cell? ⟨w.heap.size, 0, none⟩ = some (.slice (some ⟨b, off, none⟩) xs.length c) := r1'.cell 0; generalize strOfNums ys = s22 at *)
    all_goals
      go_wp2_with fail
      go_meet
      exact ⟨rfl, r1', r2', B3⟩
  case rest =>
  clear f18 f18w b1 BD r1 r2 B2 HQ HC GS
  obtain ⟨rfl, r1, r2, B2⟩ := hcut
  rename World => w5
  clear hs4 f3 hr2
  cases bq with
  | false =>
    rw [if_pos rfl] at HE'
    rw [HE'.out, if_neg (by decide)] at HV
    go_wp2_with (first
      | (refine wpList_build_known rfl _ _ rfl (.agg rec0.cells.toArray) ?_ ?_; (intro W; have hw9 := HB.out W; simpa [Act.eval] using hw9))
      | (have _t := r2; refine wpList_store_blk rfl _ _ _ rfl (ds := rec0.cells) r2 rfl rfl (by simp) (by rw [HL0.out]; kernel_rfl) HO0.out ?_; intro w9 r9 g9))
    refine bodyPost_ret (v := .tuple #[.agg rec0.cells.toArray, .int .i64 10]) (results_row_tmp rfl _ _ (w.heap.size + 1) 50 _ (0, 0) _ rfl r9 _ rfl Tryd.underlying50 rfl (by rw [show rec0.cells.toArray.size = 44 from HL0.out]; kernel_rfl)) rfl ⟨?_, ?_⟩
    · rw [HE'.out, HV.out]
    exact B2.trans (below_of_grown g9 B2.size fun b hb => by injection hb with hb; omega)
  | true =>
    rw [if_neg (by decide)] at HE'
    have S : St w (w5.alloc (.cells #[.int .i64 4] 3)) w5.heap.size (some ⟨b, off, none⟩) c xs 4 := ⟨Block.alloc r1 _, Block.alloc r2 _, Block.new w5 _ _, B2.alloc B2.size _, by have := Block.lt r2; omega⟩
    clear r1 r2 B2
    obtain ⟨one, hone⟩ : ∃ f : Nat → Int, f = fun p => xs.getD p 0 := ⟨_, rfl⟩
    have hoct : ∀ p, p < xs.length → 0 ≤ one p ∧ one p ≤ 255 := fun p hp => by rw [hone]; have := ho.at_ p; simpa [List.getD] using this
    have o12 := hoct 12 (by omega)
    have o25 := hoct 25 (by omega)
    have o26 := hoct 26 (by omega)
    have n21 := numA_four xs 21 ho (by omega)
    have n67 := numA_four xs 67 ho (by omega)
    have n71 := numA_four xs 71 ho (by omega)
    have n83 := numA_four xs 83 ho (by omega)
    have n87 := numA_four xs 87 ho (by omega)
    have HMR : Hid (recOf xs = ⟨numA xs 4 8, one 12, numA xs 13 8, numA xs 21 4, one 25, one 26, (xs.drop 27).take 32, numA xs 59 8, numA xs 67 4, numA xs 71 4, numA xs 75 8, numA xs 83 4, numA xs 87 4⟩) := Lib.hid (by rw [hone]; rfl)
    have N8 : Hid (∀ W ga p, St w W ga (some ⟨b, off, none⟩) c xs p → p + 8 ≤ 99 → Calls Tryd.prog 78 #[.int .i64 8, .pointer (some ⟨w.heap.size, 0, none⟩), .pointer (some ⟨ga, 0, none⟩)] W fun e w' => e = .returned (.int .u64 (numA xs p 8)) ∧ St w w' ga (some ⟨b, off, none⟩) c xs (p + 8) ∧ Stays ga W w') :=
      Lib.hid (fun W ga p S h => next_st 8 S (by omega) (by omega) hl hc ho hr)
    have N4 : Hid (∀ W ga p, St w W ga (some ⟨b, off, none⟩) c xs p → p + 4 ≤ 99 → Calls Tryd.prog 78 #[.int .i64 4, .pointer (some ⟨w.heap.size, 0, none⟩), .pointer (some ⟨ga, 0, none⟩)] W fun e w' => e = .returned (.int .u64 (numA xs p 4)) ∧ St w w' ga (some ⟨b, off, none⟩) c xs (p + 4) ∧ Stays ga W w') :=
      Lib.hid (fun W ga p S h => next_st 4 S (by omega) (by omega) hl hc ho hr)
    have N1 : Hid (∀ W ga p, St w W ga (some ⟨b, off, none⟩) c xs p → p + 1 ≤ 99 → Calls Tryd.prog 78 #[.int .i64 1, .pointer (some ⟨w.heap.size, 0, none⟩), .pointer (some ⟨ga, 0, none⟩)] W fun e w' => e = .returned (.int .u64 (one p)) ∧ St w w' ga (some ⟨b, off, none⟩) c xs (p + 1) ∧ Stays ga W w') :=
      Lib.hid (fun W ga p S h => by
        have := next_st 1 S (by omega) (by omega) hl hc ho hr
        rw [numA_one xs p (by omega)] at this
        rw [hone]
        exact this)
    clear hoct
    have hone' := Lib.hid hone
    clear hone
    go_wp2_with (first
      | (go_at_call 78; (with_reducible refine (N8.out _ _ _ S (by decide)).mono ?_); clear S; rintro e w9 ⟨rfl, S, K⟩; clear K; simp only [Nat.reduceAdd] at S)
      | (go_at_call 78; (with_reducible refine (N4.out _ _ _ S (by decide)).mono ?_); clear S; rintro e w9 ⟨rfl, S, K⟩; clear K; simp only [Nat.reduceAdd] at S)
      | (go_at_call 78; (with_reducible refine (N1.out _ _ _ S (by decide)).mono ?_); clear S; rintro e w9 ⟨rfl, S, K⟩; clear K; simp only [Nat.reduceAdd] at S)
      | (refine wpList_build_known rfl _ _ rfl (.agg (Rec.mk (numA xs 4 8) (one 12) (numA xs 13 8) (numA xs 21 4) (one 25) (one 26) (List.replicate 32 0) 0 0 0 0 0 0).cells.toArray) ?_ ?_; (intro W; simp only [List.map_toArray, List.map_cons, List.map_nil]; exact build_mid _ _ _ _ _ _ W))
      | (have _t := S; refine wpList_store_blk rfl _ _ _ rfl (ds := (Rec.mk (numA xs 4 8) (one 12) (numA xs 13 8) (numA xs 21 4) (one 25) (one 26) (List.replicate 32 0) 0 0 0 0 0 0).cells) (Block.new _ _ _) rfl rfl rfl (by rw [Rec.cells_length _ rfl]; kernel_rfl) (Rec.cells_one _) ?_; clear _t; intro w10 R10 g10))
    have hga := Block.lt S.at_
    have S10 := (S.alloc _).grown g10 (by have := S.big; omega) (by omega)
    have hgr : w.heap.size + 2 ≤ w9.heap.size := by have := S.big; omega
    have hne : w9.heap.size ≠ w5.heap.size := by omega
    clear S g10 hga
    generalize w9.heap.size = gr at *
    generalize w5.heap.size = ga at *
    have hman : ((xs.drop 27).take 32).length = 32 := by rw [List.length_take, List.length_drop]; omega
    have h27 : (xs.drop 27).length = xs.length - 27 := List.length_drop
    have c0 : w10.cell? ⟨ga, 0, none⟩ = some (.int .i64 27) := S10.at_.cell 0
    have c1 : w10.cell? ⟨w.heap.size, 0, none⟩ = some (.slice (some ⟨b, off, none⟩) xs.length c) := S10.box.cell 0
    have i27 : (27 : Int) ≤ (xs.length : Int) := by omega
    have k27 : (27 : Int) ≤ (c : Int) := by omega
    have e27 : ¬ c = 27 := by omega
    have hs27 : Holds w10 w.heap.size .u8 (some ⟨b, off + 27, none⟩) (xs.drop 27) := by
      have := (hr.below S10.bel).sub 27 (xs.length - 27) (by omega)
      rwa [List.take_of_length_le (by rw [h27]; exact Nat.le_refl _)] at this
    have hfit : 6 + 32 ≤ (Rec.mk (numA xs 4 8) (one 12) (numA xs 13 8) (numA xs 21 4) (one 25) (one 26) (List.replicate 32 0) 0 0 0 0 0 0).cells.length := by rw [Rec.cells_length _ rfl]; decide
    try simp only [Act.put]
    go_cut [50] (fun v wx => St w wx ga (some ⟨b, off, none⟩) c xs 59 ∧ Block wx gr 50 (Rec.mk (numA xs 4 8) (one 12) (numA xs 13 8) (numA xs 21 4) (one 25) (one 26) ((xs.drop 27).take 32) 0 0 0 0 0 0).cells.toArray)
    case first =>
      go_region_law (refine step_of_list (by rfl) (fun Q' hQ => ?_); refine Sha.wpList_copy_mid rfl _ _ _ rfl Oct.elem8 rfl (by rw [h27]; rfl) (by exact hs27) (by exact R10) hfit ?_; intro w11 R11 g11'; refine hQ _ _ ?_; clear hQ Q'; have g11 : w10.grownBy w11 (some gr) := ⟨g11'.os, g11'.tape, g11'.output, g11'.size, g11'.block⟩; have S11 := S10.grown g11 hgr hne; have q0 : w11.cell? ⟨ga, 0, none⟩ = some (.int .i64 27) := S11.at_.cell 0; have q1 := S11.at_.frozen 0; have Hlen := hman)
      all_goals
        rw [cells_man _ rfl _ hman] at R11
        have S12 := S11.moved 59
        have R12 := Block.far R11 (p := ⟨ga, 0, none⟩) hne (.int .i64 ((59 : Nat) : Int))
        go_wp2_with fail
        go_meet
        exact ⟨S12, R12⟩
    case rest =>
    clear S10 R10 c0 c1 hs27
    obtain ⟨S, R⟩ := hcut
    have HOK := Lib.hid (recOf_ok xs ho (by omega))
    have HMY := Lib.hid (fun W => may_any (recOf xs) (recOf_ok xs ho (by omega)) W)
    have HFL : Hid ((recOf xs).cells.length = 44) := Lib.hid (Rec.cells_length _ hman)
    have HFO := Lib.hid (recOf xs).cells_one
    obtain ⟨my, hmy⟩ : ∃ my : Bool, (recOf xs).may = my := ⟨_, rfl⟩
    rw [hmy] at HMY HE'
    clear hmy
    have A59 := True.intro
    have A67 := True.intro
    have A71 := True.intro
    have A75 := True.intro
    have A83 := True.intro
    have A87 := True.intro
    cases my with
    | false =>
      rw [if_neg (by decide)] at HE'
      rw [HE'.out, if_neg (by decide)] at HV
      go_wp2_with (first
        | (have _t := A59; go_at_call 78; (with_reducible refine (N8.out _ _ 59 S (by decide)).mono ?_); clear _t A59; rintro e w9 ⟨rfl, S', K⟩; simp only [Nat.reduceAdd] at S'; have R' := K.1 _ _ _ hne R; have q := (RecAt.back (r := (Rec.mk (numA xs 4 8) (one 12) (numA xs 13 8) (numA xs 21 4) (one 25) (one 26) ((xs.drop 27).take 32) 0 0 0 0 0 0)) R' hman).1; have fz := R'.frozen 38; clear S R K; have S := S'.far (g := gr) (i := 38) hgr hne (.int .u64 (numA xs 59 8)); have R : Block (w9.setCell ⟨gr, 38, none⟩ (.int .u64 (numA xs 59 8))) gr 50 (Rec.mk (numA xs 4 8) (one 12) (numA xs 13 8) (numA xs 21 4) (one 25) (one 26) ((xs.drop 27).take 32) (numA xs 59 8) 0 0 0 0 0).cells.toArray := (by have := Block.set_ R' 38 (.int .u64 (numA xs 59 8)); rwa [cells_set38 _ hman] at this); clear S' R')
        | (have _t := A67; go_at_call 78; (with_reducible refine (N4.out _ _ 67 S (by decide)).mono ?_); clear _t A67; rintro e w9 ⟨rfl, S', K⟩; simp only [Nat.reduceAdd] at S'; have R' := K.1 _ _ _ hne R; have q := (RecAt.back (r := (Rec.mk (numA xs 4 8) (one 12) (numA xs 13 8) (numA xs 21 4) (one 25) (one 26) ((xs.drop 27).take 32) (numA xs 59 8) 0 0 0 0 0)) R' hman).2.1; have fz := R'.frozen 39; clear S R K; have S := S'.far (g := gr) (i := 39) hgr hne (.int .i64 (numA xs 67 4)); have R : Block (w9.setCell ⟨gr, 39, none⟩ (.int .i64 (numA xs 67 4))) gr 50 (Rec.mk (numA xs 4 8) (one 12) (numA xs 13 8) (numA xs 21 4) (one 25) (one 26) ((xs.drop 27).take 32) (numA xs 59 8) (numA xs 67 4) 0 0 0 0).cells.toArray := (by have := Block.set_ R' 39 (.int .i64 (numA xs 67 4)); rwa [cells_set39 _ hman] at this); clear S' R')
        | (have _t := A71; go_at_call 78; (with_reducible refine (N4.out _ _ 71 S (by decide)).mono ?_); clear _t A71; rintro e w9 ⟨rfl, S', K⟩; simp only [Nat.reduceAdd] at S'; have R' := K.1 _ _ _ hne R; have q := (RecAt.back (r := (Rec.mk (numA xs 4 8) (one 12) (numA xs 13 8) (numA xs 21 4) (one 25) (one 26) ((xs.drop 27).take 32) (numA xs 59 8) (numA xs 67 4) 0 0 0 0)) R' hman).2.2.1; have fz := R'.frozen 40; clear S R K; have S := S'.far (g := gr) (i := 40) hgr hne (.int .i64 (numA xs 71 4)); have R : Block (w9.setCell ⟨gr, 40, none⟩ (.int .i64 (numA xs 71 4))) gr 50 (Rec.mk (numA xs 4 8) (one 12) (numA xs 13 8) (numA xs 21 4) (one 25) (one 26) ((xs.drop 27).take 32) (numA xs 59 8) (numA xs 67 4) (numA xs 71 4) 0 0 0).cells.toArray := (by have := Block.set_ R' 40 (.int .i64 (numA xs 71 4)); rwa [cells_set40 _ hman] at this); clear S' R')
        | (have _t := A75; go_at_call 78; (with_reducible refine (N8.out _ _ 75 S (by decide)).mono ?_); clear _t A75; rintro e w9 ⟨rfl, S', K⟩; simp only [Nat.reduceAdd] at S'; have R' := K.1 _ _ _ hne R; have q := (RecAt.back (r := (Rec.mk (numA xs 4 8) (one 12) (numA xs 13 8) (numA xs 21 4) (one 25) (one 26) ((xs.drop 27).take 32) (numA xs 59 8) (numA xs 67 4) (numA xs 71 4) 0 0 0)) R' hman).2.2.2.1; have fz := R'.frozen 41; clear S R K; have S := S'.far (g := gr) (i := 41) hgr hne (.int .u64 (numA xs 75 8)); have R : Block (w9.setCell ⟨gr, 41, none⟩ (.int .u64 (numA xs 75 8))) gr 50 (Rec.mk (numA xs 4 8) (one 12) (numA xs 13 8) (numA xs 21 4) (one 25) (one 26) ((xs.drop 27).take 32) (numA xs 59 8) (numA xs 67 4) (numA xs 71 4) (numA xs 75 8) 0 0).cells.toArray := (by have := Block.set_ R' 41 (.int .u64 (numA xs 75 8)); rwa [cells_set41 _ hman] at this); clear S' R')
        | (have _t := A83; go_at_call 78; (with_reducible refine (N4.out _ _ 83 S (by decide)).mono ?_); clear _t A83; rintro e w9 ⟨rfl, S', K⟩; simp only [Nat.reduceAdd] at S'; have R' := K.1 _ _ _ hne R; have q := (RecAt.back (r := (Rec.mk (numA xs 4 8) (one 12) (numA xs 13 8) (numA xs 21 4) (one 25) (one 26) ((xs.drop 27).take 32) (numA xs 59 8) (numA xs 67 4) (numA xs 71 4) (numA xs 75 8) 0 0)) R' hman).2.2.2.2.1; have fz := R'.frozen 42; clear S R K; have S := S'.far (g := gr) (i := 42) hgr hne (.int .i64 (numA xs 83 4)); have R : Block (w9.setCell ⟨gr, 42, none⟩ (.int .i64 (numA xs 83 4))) gr 50 (Rec.mk (numA xs 4 8) (one 12) (numA xs 13 8) (numA xs 21 4) (one 25) (one 26) ((xs.drop 27).take 32) (numA xs 59 8) (numA xs 67 4) (numA xs 71 4) (numA xs 75 8) (numA xs 83 4) 0).cells.toArray := (by have := Block.set_ R' 42 (.int .i64 (numA xs 83 4)); rwa [cells_set42 _ hman] at this); clear S' R')
        | (have _t := A87; go_at_call 78; (with_reducible refine (N4.out _ _ 87 S (by decide)).mono ?_); clear _t A87; rintro e w9 ⟨rfl, S', K⟩; simp only [Nat.reduceAdd] at S'; have R' := K.1 _ _ _ hne R; have q := (RecAt.back (r := (Rec.mk (numA xs 4 8) (one 12) (numA xs 13 8) (numA xs 21 4) (one 25) (one 26) ((xs.drop 27).take 32) (numA xs 59 8) (numA xs 67 4) (numA xs 71 4) (numA xs 75 8) (numA xs 83 4) 0)) R' hman).2.2.2.2.2; have fz := R'.frozen 43; clear S R K; have S := S'.far (g := gr) (i := 43) hgr hne (.int .i64 (numA xs 87 4)); have R : Block (w9.setCell ⟨gr, 43, none⟩ (.int .i64 (numA xs 87 4))) gr 50 (Rec.mk (numA xs 4 8) (one 12) (numA xs 13 8) (numA xs 21 4) (one 25) (one 26) ((xs.drop 27).take 32) (numA xs 59 8) (numA xs 67 4) (numA xs 71 4) (numA xs 75 8) (numA xs 83 4) (numA xs 87 4)).cells.toArray := (by have := Block.set_ R' 43 (.int .i64 (numA xs 87 4)); rwa [cells_set43 _ hman] at this); clear S' R')
        | (have _t := R; refine wpList_load_midV (by rfl) _ _ rfl gr 0 rfl (recOf xs).cells (block_range (by rw [HMR.out]; exact R)) Tryd.underlying50 rfl (by rw [HFL.out]; kernel_rfl) ?_)
        | (go_at_call 70; (with_reducible refine (HMY.out _).mono ?_); rintro e w12 ⟨rfl, hb12⟩; have R12 := Block.below R hb12 (Block.lt R); have N12 : Block w12 (w.heap.size + 1) 50 rec0.cells.toArray := Block.below S.none_ hb12 (Block.lt S.none_); have B12 := S.bel.trans (hb12.mono S.bel.size); clear R S hb12)
        | (refine wpList_build_known rfl _ _ rfl (.agg rec0.cells.toArray) ?_ ?_; (intro W; have hw9 := HB.out W; simpa [Act.eval] using hw9))
        | (have _t := N12; refine wpList_store_blk rfl _ _ _ rfl (ds := rec0.cells) N12 rfl rfl (by simp) (by rw [HL0.out]; kernel_rfl) HO0.out ?_; intro w9 r9 g9))
      refine bodyPost_ret (v := .tuple #[.agg rec0.cells.toArray, .int .i64 3]) (results_row_tmp rfl _ _ (w.heap.size + 1) 50 _ (0, 0) _ rfl r9 _ rfl Tryd.underlying50 rfl (by rw [show rec0.cells.toArray.size = 44 from HL0.out]; kernel_rfl)) rfl ⟨?_, ?_⟩
      · rw [HE'.out, HV.out]
      exact B12.trans (below_of_grown g9 B12.size fun b hb => by injection hb with hb; omega)
    | true =>
      rw [if_pos rfl] at HE'
      rw [HE'.out, if_pos rfl] at HV
      go_wp2_with (first
        | (have _t := A59; go_at_call 78; (with_reducible refine (N8.out _ _ 59 S (by decide)).mono ?_); clear _t A59; rintro e w9 ⟨rfl, S', K⟩; simp only [Nat.reduceAdd] at S'; have R' := K.1 _ _ _ hne R; have q := (RecAt.back (r := (Rec.mk (numA xs 4 8) (one 12) (numA xs 13 8) (numA xs 21 4) (one 25) (one 26) ((xs.drop 27).take 32) 0 0 0 0 0 0)) R' hman).1; have fz := R'.frozen 38; clear S R K; have S := S'.far (g := gr) (i := 38) hgr hne (.int .u64 (numA xs 59 8)); have R : Block (w9.setCell ⟨gr, 38, none⟩ (.int .u64 (numA xs 59 8))) gr 50 (Rec.mk (numA xs 4 8) (one 12) (numA xs 13 8) (numA xs 21 4) (one 25) (one 26) ((xs.drop 27).take 32) (numA xs 59 8) 0 0 0 0 0).cells.toArray := (by have := Block.set_ R' 38 (.int .u64 (numA xs 59 8)); rwa [cells_set38 _ hman] at this); clear S' R')
        | (have _t := A67; go_at_call 78; (with_reducible refine (N4.out _ _ 67 S (by decide)).mono ?_); clear _t A67; rintro e w9 ⟨rfl, S', K⟩; simp only [Nat.reduceAdd] at S'; have R' := K.1 _ _ _ hne R; have q := (RecAt.back (r := (Rec.mk (numA xs 4 8) (one 12) (numA xs 13 8) (numA xs 21 4) (one 25) (one 26) ((xs.drop 27).take 32) (numA xs 59 8) 0 0 0 0 0)) R' hman).2.1; have fz := R'.frozen 39; clear S R K; have S := S'.far (g := gr) (i := 39) hgr hne (.int .i64 (numA xs 67 4)); have R : Block (w9.setCell ⟨gr, 39, none⟩ (.int .i64 (numA xs 67 4))) gr 50 (Rec.mk (numA xs 4 8) (one 12) (numA xs 13 8) (numA xs 21 4) (one 25) (one 26) ((xs.drop 27).take 32) (numA xs 59 8) (numA xs 67 4) 0 0 0 0).cells.toArray := (by have := Block.set_ R' 39 (.int .i64 (numA xs 67 4)); rwa [cells_set39 _ hman] at this); clear S' R')
        | (have _t := A71; go_at_call 78; (with_reducible refine (N4.out _ _ 71 S (by decide)).mono ?_); clear _t A71; rintro e w9 ⟨rfl, S', K⟩; simp only [Nat.reduceAdd] at S'; have R' := K.1 _ _ _ hne R; have q := (RecAt.back (r := (Rec.mk (numA xs 4 8) (one 12) (numA xs 13 8) (numA xs 21 4) (one 25) (one 26) ((xs.drop 27).take 32) (numA xs 59 8) (numA xs 67 4) 0 0 0 0)) R' hman).2.2.1; have fz := R'.frozen 40; clear S R K; have S := S'.far (g := gr) (i := 40) hgr hne (.int .i64 (numA xs 71 4)); have R : Block (w9.setCell ⟨gr, 40, none⟩ (.int .i64 (numA xs 71 4))) gr 50 (Rec.mk (numA xs 4 8) (one 12) (numA xs 13 8) (numA xs 21 4) (one 25) (one 26) ((xs.drop 27).take 32) (numA xs 59 8) (numA xs 67 4) (numA xs 71 4) 0 0 0).cells.toArray := (by have := Block.set_ R' 40 (.int .i64 (numA xs 71 4)); rwa [cells_set40 _ hman] at this); clear S' R')
        | (have _t := A75; go_at_call 78; (with_reducible refine (N8.out _ _ 75 S (by decide)).mono ?_); clear _t A75; rintro e w9 ⟨rfl, S', K⟩; simp only [Nat.reduceAdd] at S'; have R' := K.1 _ _ _ hne R; have q := (RecAt.back (r := (Rec.mk (numA xs 4 8) (one 12) (numA xs 13 8) (numA xs 21 4) (one 25) (one 26) ((xs.drop 27).take 32) (numA xs 59 8) (numA xs 67 4) (numA xs 71 4) 0 0 0)) R' hman).2.2.2.1; have fz := R'.frozen 41; clear S R K; have S := S'.far (g := gr) (i := 41) hgr hne (.int .u64 (numA xs 75 8)); have R : Block (w9.setCell ⟨gr, 41, none⟩ (.int .u64 (numA xs 75 8))) gr 50 (Rec.mk (numA xs 4 8) (one 12) (numA xs 13 8) (numA xs 21 4) (one 25) (one 26) ((xs.drop 27).take 32) (numA xs 59 8) (numA xs 67 4) (numA xs 71 4) (numA xs 75 8) 0 0).cells.toArray := (by have := Block.set_ R' 41 (.int .u64 (numA xs 75 8)); rwa [cells_set41 _ hman] at this); clear S' R')
        | (have _t := A83; go_at_call 78; (with_reducible refine (N4.out _ _ 83 S (by decide)).mono ?_); clear _t A83; rintro e w9 ⟨rfl, S', K⟩; simp only [Nat.reduceAdd] at S'; have R' := K.1 _ _ _ hne R; have q := (RecAt.back (r := (Rec.mk (numA xs 4 8) (one 12) (numA xs 13 8) (numA xs 21 4) (one 25) (one 26) ((xs.drop 27).take 32) (numA xs 59 8) (numA xs 67 4) (numA xs 71 4) (numA xs 75 8) 0 0)) R' hman).2.2.2.2.1; have fz := R'.frozen 42; clear S R K; have S := S'.far (g := gr) (i := 42) hgr hne (.int .i64 (numA xs 83 4)); have R : Block (w9.setCell ⟨gr, 42, none⟩ (.int .i64 (numA xs 83 4))) gr 50 (Rec.mk (numA xs 4 8) (one 12) (numA xs 13 8) (numA xs 21 4) (one 25) (one 26) ((xs.drop 27).take 32) (numA xs 59 8) (numA xs 67 4) (numA xs 71 4) (numA xs 75 8) (numA xs 83 4) 0).cells.toArray := (by have := Block.set_ R' 42 (.int .i64 (numA xs 83 4)); rwa [cells_set42 _ hman] at this); clear S' R')
        | (have _t := A87; go_at_call 78; (with_reducible refine (N4.out _ _ 87 S (by decide)).mono ?_); clear _t A87; rintro e w9 ⟨rfl, S', K⟩; simp only [Nat.reduceAdd] at S'; have R' := K.1 _ _ _ hne R; have q := (RecAt.back (r := (Rec.mk (numA xs 4 8) (one 12) (numA xs 13 8) (numA xs 21 4) (one 25) (one 26) ((xs.drop 27).take 32) (numA xs 59 8) (numA xs 67 4) (numA xs 71 4) (numA xs 75 8) (numA xs 83 4) 0)) R' hman).2.2.2.2.2; have fz := R'.frozen 43; clear S R K; have S := S'.far (g := gr) (i := 43) hgr hne (.int .i64 (numA xs 87 4)); have R : Block (w9.setCell ⟨gr, 43, none⟩ (.int .i64 (numA xs 87 4))) gr 50 (Rec.mk (numA xs 4 8) (one 12) (numA xs 13 8) (numA xs 21 4) (one 25) (one 26) ((xs.drop 27).take 32) (numA xs 59 8) (numA xs 67 4) (numA xs 71 4) (numA xs 75 8) (numA xs 83 4) (numA xs 87 4)).cells.toArray := (by have := Block.set_ R' 43 (.int .i64 (numA xs 87 4)); rwa [cells_set43 _ hman] at this); clear S' R')
        | (have _t := R; refine wpList_load_midV (by rfl) _ _ rfl gr 0 rfl (recOf xs).cells (block_range (by rw [HMR.out]; exact R)) Tryd.underlying50 rfl (by rw [HFL.out]; kernel_rfl) ?_)
        | (go_at_call 70; (with_reducible refine (HMY.out _).mono ?_); rintro e w12 ⟨rfl, hb12⟩; have R12 := Block.below R hb12 (Block.lt R); have N12 : Block w12 (w.heap.size + 1) 50 rec0.cells.toArray := Block.below S.none_ hb12 (Block.lt S.none_); have B12 := S.bel.trans (hb12.mono S.bel.size); clear R S hb12)
        | (have _t := R12; refine wpList_load_midV (by rfl) _ _ rfl gr 0 rfl (recOf xs).cells (block_range (by rw [HMR.out]; exact R12)) Tryd.underlying50 rfl (by rw [HFL.out]; kernel_rfl) ?_)
        | (have _t := N12; refine wpList_store_blk rfl _ _ _ rfl (ds := (recOf xs).cells) N12 rfl rfl (by rw [HFL.out]; rfl) (by rw [HFL.out]; kernel_rfl) HFO.out ?_; intro w9 r9 g9))
      refine bodyPost_ret (v := .tuple #[.agg (recOf xs).cells.toArray, .int .i64 0]) (results_row_tmp rfl _ _ (w.heap.size + 1) 50 _ (0, 0) _ rfl r9 _ rfl Tryd.underlying50 rfl (by rw [show (recOf xs).cells.toArray.size = 44 from HFL.out]; kernel_rfl)) rfl ⟨?_, ?_⟩
      · rw [HE'.out, HV.out]
      exact B12.trans (below_of_grown g9 B12.size fun b hb => by injection hb with hb; omega)
end Go.Proofs.YtpnodocjpedcmaaDoor.Jr
