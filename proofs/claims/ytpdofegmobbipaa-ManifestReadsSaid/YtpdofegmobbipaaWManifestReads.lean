/-
  ManifestReads: the walk: the manifest of any bytes, or the error, is the document's; it is put as it stood.
-/
import Derived.Test.YtpdofegmobbipaaMnZ
import Derived.Test.YtpdofegmobbipaaMnM
namespace Go.Proofs.Ytpdofegmobbipaa.ManifestReads
open Go.ChangeShapes Go.WideShapes Go.ChangeAt Go.RowKit Go.Proofs.Ytpdofegmobbipaa.Kit Go.Proofs.Ytpdofegmobbipaa.Mn

set_option maxRecDepth 100000 in
set_option maxHeartbeats 6400000 in
theorem walk (A : Option Addr) (xs : List Int) (c : Nat) (w : World) (hl : xs.length ≤ c) (hm : c ≤ maxLen) (ho : Octets xs) (hr : Holds w w.heap.size .u8 A xs) :
    Calls Try.prog 4 #[.slice A xs.length c] w fun e w' => e = .returned (.bool true) ∧ Below w.heap.size w w' := by
  have GA := Lib.hid (fun W => awake22_any W)
  by_cases h4 : 400 < xs.length
  · have d4 : decide ((400 : Int) < (xs.length : Int)) = true := decide_eq_true (by omega)
    clear hr ho
    go_enter Try.func4, Try.ntmps4
    go_wp2_with (go_at_call 8; (with_reducible refine (GA.out _).mono ?_); rintro e w2 ⟨rfl, hb⟩)
    go_ret
    exact ⟨rfl, hb⟩
  have d4 : decide ((400 : Int) < (xs.length : Int)) = false := decide_eq_false (by omega)
  have GG := Lib.hid (mget_any A xs c w hl hm (by omega) ho hr)
  have GR := Lib.hid (fun W (hB : Below w.heap.size w W) => rmget_any A xs c W hl hm (by omega) ho ((hr.below hB).more hB.size))
  have HL0 := Lib.hid (man0.cells_length man0_ok)
  have hzv := zero_man
  have HR := Lib.hid hr
  have hx400 : xs.length ≤ 400 := by omega
  clear hr h4
  go_enter Try.func4, Try.ntmps4
  go_upto_region 4 with (first
    | (go_at_call 13; refine GG.out.mono ?_; rintro e w1 ⟨m1, ok1, h1, ⟨A1, c1, hm1⟩, rfl, hb1⟩; have HL1 := Lib.hid (m1.cells_length ok1); have N1 := Lib.hid (Block.new w1 27 man0.cells.toArray); have B1 := Lib.hid hb1; have HH1 := Lib.hid h1; have OK1 := Lib.hid ok1; have HM1 := Lib.hid hm1; clear h1 ok1 hb1 hm1)
    | (have _t := N1; clear _t; refine wpList_store_blk rfl _ _ _ rfl (ds := m1.cells) N1.out rfl rfl (by rw [List.size_toArray, HL0.out, HL1.out]) (by rw [HL1.out]; kernel_rfl) m1.cells_one ?_; clear N1; intro w2 X2 g2))
  try simp only [Act.put, List.setIfInBounds_toArray, List.set_cons_zero, List.set_cons_succ]
  have Q2 : Below w1.heap.size w1 w2 := (below_last w1 (.cells man0.cells.toArray 27)).trans (below_of_grown g2 (by simp) fun b hb => by injection hb with hb; omega)
  have B2 := Lib.hid (B1.out.trans (Q2.mono B1.out.size))
  have HH2 := Lib.hid (HH1.out.on Q2)
  have HX2 := Lib.hid X2
  clear X2 g2 Q2 HH1 B1 GG
  generalize w1.heap.size = g3 at *
  go_upto_region 5 with (first
    | (go_at_call 15; refine (GR.out _ B2.out).mono ?_; rintro e w3 ⟨m2, ok2, h2, ⟨A2, c2, hm2⟩, rfl, hb3⟩; have HL2 := Lib.hid (m2.cells_length ok2); have N3 := Lib.hid (Block.new w3 27 man0.cells.toArray); have B3 := Lib.hid (B2.out.trans (hb3.mono B2.out.size)); have HH3 := Lib.hid (HH2.out.on hb3); have HK3 := Lib.hid h2; have OK2 := Lib.hid ok2; have HM2 := Lib.hid hm2; have HX3 := Lib.hid (HX2.out.below hb3 HX2.out.lt); clear h2 ok2 hb3 hm2 HX2 HH2 B2)
    | (have _t := N3; clear _t; refine wpList_store_blk rfl _ _ _ rfl (ds := m2.cells) N3.out rfl rfl (by rw [List.size_toArray, HL0.out, HL2.out]) (by rw [HL2.out]; kernel_rfl) m2.cells_one ?_; clear N3; intro w4 X4 g4))
  try simp only [Act.put, List.setIfInBounds_toArray, List.set_cons_zero, List.set_cons_succ]
  have hg3 := HX3.out.lt
  have Q4 : Below w3.heap.size w3 w4 := (below_last w3 (.cells man0.cells.toArray 27)).trans (below_of_grown g4 (by simp) fun b hb => by injection hb with hb; omega)
  have B4 := Lib.hid (B3.out.trans (Q4.mono B3.out.size))
  have HH4 := Lib.hid (HH3.out.on Q4)
  have HK4 := Lib.hid (HK3.out.on Q4)
  have HY4 := Lib.hid (HX3.out.below Q4 hg3)
  have HX4 := Lib.hid X4
  clear X4 g4 Q4 HX3 HH3 HK3 B3 GR hg3 hzv
  generalize w3.heap.size = g5 at *
  by_cases hE : gotE xs = 0
  · have hm1 := HM1.out
    have hm2 := HM2.out
    rw [if_pos hE] at hm1 hm2
    subst hm1 hm2
    have hge : gotOk xs ∧ 118 ≤ xs.length := by
      unfold gotE at hE
      split at hE
      · cases hE
      · split at hE
        · exact ⟨by assumption, by omega⟩
        · cases hE
    have hnp : (ordN xs (pairs xs)).length ≤ 5000 := by rw [ordN_length]; unfold pairs; omega
    have GS : Hid (Calls Try.prog 14 #[.agg (manN xs (pairs xs) A1 c1).cells.toArray, .agg (manN xs (pairs xs) A2 c2).cells.toArray] w4 fun e w' => e = .returned (.bool true) ∧ Below w4.heap.size w4 w') :=
      Lib.hid (same_yes (manN xs (pairs xs) A1 c1) OK1.out A2 c2 w4 HH4.out hnp HK4.out OK2.out)
    have GP : Hid (∀ W, Holds W W.heap.size .i64 A1 (ordN xs (pairs xs)) → Calls Try.prog 9 #[.agg (manN xs (pairs xs) A1 c1).cells.toArray] W (Gives2 xs 0 W)) := Lib.hid (fun W h => by
      have := mput_any (manN xs (pairs xs) A1 c1) OK1.out W h hnp
      unfold Man.putV Man.putE at this
      have hmay : (manN xs (pairs xs) A1 c1).May := hge.1.2.1
      rw [if_pos hmay, if_pos hmay, putL_manN xs _ A1 c1 ho hge.1.1 hge.1.2.2] at this
      exact this)
    rw [hE]
    have K0 : Hid True := Lib.hid trivial
    have HL9 := HL2
    clear hge hnp hE HM1 HM2 HL2
    generalize (manN xs (pairs xs) A1 c1).cells = L1 at *
    generalize (manN xs (pairs xs) A2 c2).cells = L2 at *
    go_wp2_with (first
      | (have _t := K0; clear _t; refine wpList_load_midV (o := ⟨some 23, _, _, _, _, _⟩) (by rfl) _ _ rfl g3 0 rfl L1 (block_range HY4.out) Try.underlying27 rfl (by rw [HL1.out]; kernel_rfl) ?_; clear K0; have K1 : Hid True := Lib.hid trivial)
      | (have _t := K1; clear _t; refine wpList_load_midV (o := ⟨some 24, _, _, _, _, _⟩) (by rfl) _ _ rfl g5 0 rfl L2 (block_range HX4.out) Try.underlying27 rfl (by rw [HL9.out]; kernel_rfl) ?_; clear K1)
      | (go_at_call 14; ((with_reducible refine GS.out.mono ?_); rintro e w5 ⟨rfl, hb5⟩); have HY5 := Lib.hid (HY4.out.below hb5 HY4.out.lt); have B5 := Lib.hid (B4.out.trans (hb5.mono B4.out.size)); have HH5 := Lib.hid (HH4.out.on hb5); clear HY4 HH4 B4 hb5 GS)
      | (have _t := HY5; clear _t; refine wpList_load_midV (o := ⟨some 36, _, _, _, _, _⟩) (by rfl) _ _ rfl g3 0 rfl L1 (block_range HY5.out) Try.underlying27 rfl (by rw [HL1.out]; kernel_rfl) ?_; clear HY5)
      | (go_at_call 9; ((with_reducible refine (GP.out _ HH5.out).mono ?_); rintro e w6 ⟨A6, c6, rfl, hl6, hm6, hh6, hb6⟩); have B6 := Lib.hid (B5.out.trans (hb6.mono B5.out.size)); have f1 := conv_bytes (P := Try.prog) Try.underlying29 Try.underlying5 Try.underlying9 w6 A6 xs c6 _ hh6; have f2 := conv_bytes (P := Try.prog) Try.underlying29 Try.underlying5 Try.underlying9 w6 A xs c _ (HR.out.below B6.out); generalize strOfNums xs = S at f1 f2; clear hh6 hl6 hm6 hb6 B5)
      | (go_at_call 8; (with_reducible refine (GA.out _).mono ?_); rintro e w9 ⟨rfl, hb9⟩))
    go_ret
    exact ⟨rfl, B6.out.trans (hb9.mono B6.out.size)⟩
  · have hm1 := HM1.out
    have hm2 := HM2.out
    rw [if_neg hE] at hm1 hm2
    subst hm1 hm2
    have GS : Hid (Calls Try.prog 14 #[.agg man0.cells.toArray, .agg man0.cells.toArray] w4 fun e w' => e = .returned (.bool true) ∧ Below w4.heap.size w4 w') :=
      Lib.hid (same_yes man0 man0_ok none 0 w4 Holds.nil (Nat.zero_le _) Holds.nil man0_ok)
    have hne : (gotE xs != 0) = true := by simpa using hE
    generalize gotE xs = E at *
    have K0 : Hid True := Lib.hid trivial
    clear hE HM1 HM2
    generalize man0.cells = L1 at *
    go_wp2_with (first
      | (have _t := K0; clear _t; refine wpList_load_midV (o := ⟨some 23, _, _, _, _, _⟩) (by rfl) _ _ rfl g3 0 rfl L1 (block_range HY4.out) Try.underlying27 rfl (by rw [HL1.out]; kernel_rfl) ?_; clear K0; have K1 : Hid True := Lib.hid trivial)
      | (have _t := K1; clear _t; refine wpList_load_midV (o := ⟨some 24, _, _, _, _, _⟩) (by rfl) _ _ rfl g5 0 rfl L1 (block_range HX4.out) Try.underlying27 rfl (by rw [HL1.out]; kernel_rfl) ?_; clear K1)
      | (go_at_call 14; ((with_reducible refine GS.out.mono ?_); rintro e w5 ⟨rfl, hb5⟩); have B5 := Lib.hid (B4.out.trans (hb5.mono B4.out.size)); clear GS)
      | (go_at_call 8; (with_reducible refine (GA.out _).mono ?_); rintro e w9 ⟨rfl, hb9⟩))
    go_ret
    exact ⟨rfl, B5.out.trans (hb9.mono B5.out.size)⟩
end Go.Proofs.Ytpdofegmobbipaa.ManifestReads
