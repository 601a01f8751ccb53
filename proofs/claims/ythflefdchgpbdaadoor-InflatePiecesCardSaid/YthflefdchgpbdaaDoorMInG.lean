/-
  Layer 13, inflate: the lengths that are the same always: the program's contract. Conditions: as each theorem names.
-/
import Derived.Test.YthflefdchgpbdaaDoorMGIces18
namespace Go.Proofs.YthflefdchgpbdaaDoor.Inf
open Go.ChangeShapes Go.WideShapes Go.ChangeAt Go.RowKit Go.Proofs.YthflefdchgpbdaaDoor.Kit Go.Proofs.YthflefdchgpbdaaDoor.Bits Go.Proofs.YthflefdchgpbdaaDoor.Huf Go.Proofs.YthflefdchgpbdaaDoor.Df

theorem fixL_get : ∀ i, i < 288 → fixL.getD i 0 = if i < 144 then 8 else if i < 256 then 9 else if i < 280 then 7 else 8 := by decide +kernel
theorem fix_next (i : Nat) (h : i < 288) : (fixL.take i ++ List.replicate (288 - i) 0).set i (if i < 144 then 8 else if i < 256 then 9 else if i < 280 then 7 else 8) = fixL.take (i + 1) ++ List.replicate (288 - (i + 1)) 0 := by
  have hl := fix_ok.2.2.1
  have h1 : (fixL.take i).length = i := by rw [List.length_take]; omega
  rw [← fixL_get i h, List.set_append_right _ _ (by omega), h1, Nat.sub_self, show 288 - i = (288 - (i + 1)) + 1 by omega, List.replicate_succ, List.set_cons_zero]
  have e : fixL.take (i + 1) = fixL.take i ++ [fixL.getD i 0] := by
    rw [List.take_add_one, List.getElem?_eq_getElem (by omega), List.getD_eq_getElem?_getD, List.getElem?_eq_getElem (by omega)]
    rfl
  rw [e, List.append_assoc]
  rfl
theorem fixD_next (i : Nat) (h : i < 32) : (List.replicate i (5 : Int) ++ List.replicate (32 - i) 0).set i 5 = List.replicate (i + 1) 5 ++ List.replicate (32 - (i + 1)) 0 := by
  rw [List.set_append_right _ _ (by simp), List.length_replicate, Nat.sub_self, show 32 - i = (32 - (i + 1)) + 1 by omega, List.replicate_succ, List.set_cons_zero, List.replicate_succ', List.append_assoc]
  rfl
def FixTo (w : World) (e : Ending) (w' : World) : Prop := ∃ a b, e = .returned (.tuple #[.slice (some ⟨a, 0, none⟩) 288 288, .slice (some ⟨b, 0, none⟩) 32 32]) ∧ Own w' w.heap.size 5 .u8 (.slice (some ⟨a, 0, none⟩) 288 288) fixL ∧ Own w' w.heap.size 5 .u8 (.slice (some ⟨b, 0, none⟩) 32 32) fixD ∧ a ≠ b ∧ Below w.heap.size w w'

set_option maxRecDepth 100000 in
set_option maxHeartbeats 6400000 in
theorem fixed_any (w : World) : Calls Tryd.prog 45 #[] w (FixTo w) := by
  go_enter Tryd.func45, Tryd.ntmps45
  go_wp2_with fail
  refine wp_region_held_drew (S := (fun _ : World => True)) (by kernel_rfl) trivial (fun hS => ?_)
  refine wpAnyH_ready (rs := [0, 1]) (by kernel_rfl) (by simp) ?_
  refine AllReadyH.cons rfl (fun K hK => ?_) (AllReadyH.cons rfl (fun K hK => ?_) AllReadyH.nil)
  case' refine_1 =>
    refine step_of_list (by simp [Region.wanted]) fun Q9 hn9 => ?_
    refine wpList_make_ints _ rfl _ _ _ rfl elem8 288 288 rfl rfl rfl rfl (Nat.le_refl _) (by omega) ?_
    intro w1 o1 b1 l1
    refine hn9 _ _ ?_
    clear hn9 Q9
    change K (Act.put _ (some 6) _) _
    refine hK.out _ _ trivial (fun hS => ?_)
    clear hK K
    try simp only [Act.put, List.setIfInBounds_toArray, List.set_cons_zero, List.set_cons_succ]
    refine wpAnyH_take (i := 2) (oi := ⟨some 2, _, _, _, _, _⟩) (v := .slice (some ⟨w.heap.size, 0, none⟩) 288 288) rfl (by kernel_rfl) (by kernel_rfl) (by kernel_rfl) (fun _ _ _ h => h) (Or.inl ⟨by rfl, fun W hW => by go_simp⟩) hS ?_
    try simp only [Act.put, List.setIfInBounds_toArray, List.set_cons_zero, List.set_cons_succ]
    refine wpAnyH_ready (rs := [1]) (by kernel_rfl) (by simp) ?_
    refine AllReadyH.cons rfl (fun K hK => ?_) AllReadyH.nil
    refine step_of_list (by simp [Region.wanted]) fun Q9 hn9 => ?_
    refine wpList_make_ints _ rfl _ _ _ rfl elem8 32 32 rfl rfl rfl rfl (Nat.le_refl _) (by omega) ?_
    intro w2 o2 b2 l2
    refine hn9 _ _ ?_
    clear hn9 Q9
    change K (Act.put _ (some 7) _) _
    refine hK.out _ _ trivial (fun hS => ?_)
    clear hK K
    try simp only [Act.put, List.setIfInBounds_toArray, List.set_cons_zero, List.set_cons_succ]
    refine wpAnyH_take (i := 3) (oi := ⟨some 3, _, _, _, _, _⟩) (v := .slice (some ⟨w1.heap.size, 0, none⟩) 32 32) rfl (by kernel_rfl) (by kernel_rfl) (by kernel_rfl) (fun _ _ _ h => h) (Or.inl ⟨by rfl, fun W hW => by go_simp⟩) hS ?_
    try simp only [Act.put, List.setIfInBounds_toArray, List.set_cons_zero, List.set_cons_succ]
    refine wpAnyH_done (by kernel_rfl) ?_ _
    have hs1 : w.heap.size < w1.heap.size := l1
    have hs2 : w1.heap.size < w2.heap.size := l2
    have bw1 : Below w.heap.size w w1 := ⟨b1.os, b1.tape, b1.output, b1.size, b1.block⟩
    have o1' := (show Own w1 w.heap.size 5 .u8 (.slice (some ⟨w.heap.size, 0, none⟩) 288 288) (List.replicate 288 0) from o1).below b2
    have o2' := o2.mono (Nat.le_of_lt hs1)
    have bw2 := bw1.trans (b2.mono (Nat.le_of_lt hs1))
    obtain ⟨ga, hga⟩ : ∃ ga, w.heap.size = ga := ⟨_, rfl⟩
    obtain ⟨gb, hgb⟩ : ∃ gb, w1.heap.size = gb := ⟨_, rfl⟩
    have hne : ga ≠ gb := by omega
    have hza : ga < w2.heap.size := by omega
    have hzb : gb < w2.heap.size := by omega
    rw [hgb] at o2'
    rw [show Value.slice (some ⟨w.heap.size, 0, none⟩) 288 288 = Value.slice (some ⟨ga, 0, none⟩) 288 288 by rw [hga]] at o1'
    rw [show Value.slice (some ⟨w.heap.size, 0, none⟩) 288 288 = Value.slice (some ⟨ga, 0, none⟩) 288 288 by rw [hga], hgb]
    have OA := Lib.hid o1'
    have OB := Lib.hid o2'
    have BW := Lib.hid bw2
    clear hga hgb o1 o2 o1' o2' b1 b2 bw1 bw2 l1 l2
  case' refine_2 =>
    refine step_of_list (by simp [Region.wanted]) fun Q9 hn9 => ?_
    refine wpList_make_ints _ rfl _ _ _ rfl elem8 32 32 rfl rfl rfl rfl (Nat.le_refl _) (by omega) ?_
    intro w1 o1 b1 l1
    refine hn9 _ _ ?_
    clear hn9 Q9
    change K (Act.put _ (some 7) _) _
    refine hK.out _ _ trivial (fun hS => ?_)
    clear hK K
    try simp only [Act.put, List.setIfInBounds_toArray, List.set_cons_zero, List.set_cons_succ]
    refine wpAnyH_ready (rs := [0]) (by kernel_rfl) (by simp) ?_
    refine AllReadyH.cons rfl (fun K hK => ?_) AllReadyH.nil
    refine step_of_list (by simp [Region.wanted]) fun Q9 hn9 => ?_
    refine wpList_make_ints _ rfl _ _ _ rfl elem8 288 288 rfl rfl rfl rfl (Nat.le_refl _) (by omega) ?_
    intro w2 o2 b2 l2
    refine hn9 _ _ ?_
    clear hn9 Q9
    change K (Act.put _ (some 6) _) _
    refine hK.out _ _ trivial (fun hS => ?_)
    clear hK K
    try simp only [Act.put, List.setIfInBounds_toArray, List.set_cons_zero, List.set_cons_succ]
    refine wpAnyH_take (i := 2) (oi := ⟨some 2, _, _, _, _, _⟩) (v := .slice (some ⟨w1.heap.size, 0, none⟩) 288 288) rfl (by kernel_rfl) (by kernel_rfl) (by kernel_rfl) (fun _ _ _ h => h) (Or.inl ⟨by rfl, fun W hW => by go_simp⟩) hS ?_
    try simp only [Act.put, List.setIfInBounds_toArray, List.set_cons_zero, List.set_cons_succ]
    refine wpAnyH_take (i := 3) (oi := ⟨some 3, _, _, _, _, _⟩) (v := .slice (some ⟨w.heap.size, 0, none⟩) 32 32) rfl (by kernel_rfl) (by kernel_rfl) (by kernel_rfl) (fun _ _ _ h => h) (Or.inl ⟨by rfl, fun W hW => by go_simp⟩) hS ?_
    try simp only [Act.put, List.setIfInBounds_toArray, List.set_cons_zero, List.set_cons_succ]
    refine wpAnyH_done (by kernel_rfl) ?_ _
    have hs1 : w.heap.size < w1.heap.size := l1
    have hs2 : w1.heap.size < w2.heap.size := l2
    have bw1 : Below w.heap.size w w1 := ⟨b1.os, b1.tape, b1.output, b1.size, b1.block⟩
    have o1' := (show Own w1 w.heap.size 5 .u8 (.slice (some ⟨w.heap.size, 0, none⟩) 32 32) (List.replicate 32 0) from o1).below b2
    have o2' := o2.mono (Nat.le_of_lt hs1)
    have bw2 := bw1.trans (b2.mono (Nat.le_of_lt hs1))
    obtain ⟨ga, hga⟩ : ∃ ga, w1.heap.size = ga := ⟨_, rfl⟩
    obtain ⟨gb, hgb⟩ : ∃ gb, w.heap.size = gb := ⟨_, rfl⟩
    have hne : ga ≠ gb := by omega
    have hza : ga < w2.heap.size := by omega
    have hzb : gb < w2.heap.size := by omega
    rw [hga] at o2'
    rw [show Value.slice (some ⟨w.heap.size, 0, none⟩) 32 32 = Value.slice (some ⟨gb, 0, none⟩) 32 32 by rw [hgb]] at o1'
    rw [show Value.slice (some ⟨w.heap.size, 0, none⟩) 32 32 = Value.slice (some ⟨gb, 0, none⟩) 32 32 by rw [hgb], hga]
    have OA := Lib.hid o2'
    have OB := Lib.hid o1'
    have BW := Lib.hid bw2
    clear hga hgb o1 o2 o1' o2' b1 b2 bw1 bw2 l1 l2
  all_goals
    go_wp2_with fail
    go_loopw [10] (fun s wr => ∃ i : Nat, i ≤ 288 ∧ s = .int .i64 i ∧ Own wr w.heap.size 5 .u8 (.slice (some ⟨ga, 0, none⟩) 288 288) (fixL.take i ++ List.replicate (288 - i) 0) ∧ TurnsIn (fun b => b = ga) w2 wr) (fun s _ => 288 - (intOf s).toNat)
    case atStart => exact ⟨0, by omega, rfl, OA.out, TurnsIn.refl _ _⟩
    case round =>
      obtain ⟨i, hi, rfl, own, tw⟩ := hrel
      have hlen : (fixL.take i ++ List.replicate (288 - i) (0 : Int)).length = 288 := by rw [List.length_append, List.length_take, List.length_replicate, fix_ok.2.2.1]; omega
      by_cases hlt : i < 288
      · have hfr := own.frozenAt hlen.symm i
        have hcl := own.cellAt hlen.symm (i := i) (by omega)
        generalize (fixL.take i ++ List.replicate (288 - i) (0 : Int))[i]?.getD 0 = old at hcl
        have hnx := fix_next i hlt
        have q0 : (i : Int) < 288 := by omega
        have q1 : (0 : Int) ≤ (i : Int) := by omega
        have HNX := Lib.hid hnx
        have HLEN := Lib.hid hlen
        have HO := Lib.hid own
        have HT := Lib.hid tw
        clear hnx hlen own tw
        by_cases c1 : i < 144
        case' pos =>
          have d1 : decide ((i : Int) < 144) = true := decide_eq_true (by omega)
          obtain ⟨V, hV⟩ : ∃ V : Int, V = 8 := ⟨8, rfl⟩
          have HV := Lib.hid (show V = if i < 144 then 8 else if i < 256 then 9 else if i < 280 then 7 else 8 by rw [hV, if_pos c1])
          have HV8 := Lib.hid hV
          clear c1 hV
          go_wp2_with fail
          rw [← HV8.out]
        case' neg =>
          have d1 : decide ((i : Int) < 144) = false := decide_eq_false (by omega)
          by_cases c2 : i < 256
          case' pos =>
            have d2 : decide ((i : Int) < 256) = true := decide_eq_true (by omega)
            obtain ⟨V, hV⟩ : ∃ V : Int, V = 9 := ⟨9, rfl⟩
            have HV := Lib.hid (show V = if i < 144 then 8 else if i < 256 then 9 else if i < 280 then 7 else 8 by rw [hV, if_neg c1, if_pos c2])
            have HV8 := Lib.hid hV
            clear c1 c2 hV
            go_wp2_with fail
            rw [← HV8.out]
          case' neg =>
            have d2 : decide ((i : Int) < 256) = false := decide_eq_false (by omega)
            by_cases c3 : i < 280
            case' pos =>
              have d3 : decide ((i : Int) < 280) = true := decide_eq_true (by omega)
              obtain ⟨V, hV⟩ : ∃ V : Int, V = 7 := ⟨7, rfl⟩
              have HV := Lib.hid (show V = if i < 144 then 8 else if i < 256 then 9 else if i < 280 then 7 else 8 by rw [hV, if_neg c1, if_neg c2, if_pos c3])
              have HV8 := Lib.hid hV
              clear c1 c2 c3 hV
              go_wp2_with fail
              rw [← HV8.out]
            case' neg =>
              have d3 : decide ((i : Int) < 280) = false := decide_eq_false (by omega)
              obtain ⟨V, hV⟩ : ∃ V : Int, V = 8 := ⟨8, rfl⟩
              have HV := Lib.hid (show V = if i < 144 then 8 else if i < 256 then 9 else if i < 280 then 7 else 8 by rw [hV, if_neg c1, if_neg c2, if_neg c3])
              have HV8 := Lib.hid hV
              clear c1 c2 c3 hV
              go_wp2_with fail
              rw [← HV8.out]
        all_goals
          go_roundw
          case rel =>
            have os := HO.out.stored HLEN.out.symm i V
            have hv := HV.out
            rw [show (fixL.take i ++ List.replicate (288 - i) (0 : Int)).set i V = fixL.take (i + 1) ++ List.replicate (288 - (i + 1)) 0 by rw [hv]; exact HNX.out] at os
            exact ⟨i + 1, by omega, by go_num, os.1, HT.out.trans (.ofGrown os.2 fun b hb => (Option.some.inj hb).symm)⟩
          case measure => simp [intOf]; omega
      · obtain rfl : i = 288 := by omega
        have hfin : fixL.take 288 ++ List.replicate (288 - 288) (0 : Int) = fixL := by rw [List.take_of_length_le (by rw [fix_ok.2.2.1]; omega)]; simp
        rw [hfin] at own
        have ob1 := OB.out.out tw (fun b hb he => hne (by rw [← he]; exact (Option.some.inj hb).symm))
        have O1 := Lib.hid own
        have T1 := Lib.hid tw
        have OB1 := Lib.hid ob1
        clear own tw ob1 hfin hlen
        go_wp2_with fail
        go_loopw [37] (fun s wq => ∃ i : Nat, i ≤ 32 ∧ s = .int .i64 i ∧ Own wq w.heap.size 5 .u8 (.slice (some ⟨gb, 0, none⟩) 32 32) (List.replicate i 5 ++ List.replicate (32 - i) 0) ∧ TurnsIn (fun b => b = gb) wr wq) (fun s _ => 32 - (intOf s).toNat)
        case atStart => exact ⟨0, by omega, rfl, OB1.out, TurnsIn.refl _ _⟩
        case round =>
          obtain ⟨i, hi, rfl, own, tw⟩ := hrel
          have hlen : (List.replicate i (5 : Int) ++ List.replicate (32 - i) (0 : Int)).length = 32 := by simp; omega
          by_cases hlt : i < 32
          · have hfr := own.frozenAt hlen.symm i
            have hcl := own.cellAt hlen.symm (i := i) (by omega)
            generalize (List.replicate i (5 : Int) ++ List.replicate (32 - i) (0 : Int))[i]?.getD 0 = old at hcl
            have hnx := fixD_next i hlt
            have q0 : (i : Int) < 32 := by omega
            have q1 : (0 : Int) ≤ (i : Int) := by omega
            have HNX := Lib.hid hnx
            have HLEN := Lib.hid hlen
            have HO := Lib.hid own
            have HT := Lib.hid tw
            clear hnx hlen own tw
            go_wp2_with fail
            go_roundw
            case rel =>
              have os := HO.out.stored HLEN.out.symm i 5
              rw [HNX.out] at os
              exact ⟨i + 1, by omega, by go_num, os.1, HT.out.trans (.ofGrown os.2 fun b hb => (Option.some.inj hb).symm)⟩
            case measure => simp [intOf]; omega
          · obtain rfl : i = 32 := by omega
            have hfin : List.replicate 32 (5 : Int) ++ List.replicate (32 - 32) (0 : Int) = fixD := by simp [fixD]
            rw [hfin] at own
            have o1 := O1.out.out tw (fun b hb he => hne (by rw [← he]; exact Option.some.inj hb))
            have hB := BW.out.trans ((T1.out).toBelow (B := w.heap.size) BW.out.size (fun b hb he => by have := (OA.out.lt b (by rw [he]; rfl)).1; omega))
            have hB2 := hB.trans (tw.toBelow (B := w.heap.size) hB.size (fun b hb he => by have := (OB.out.lt b (by rw [he]; rfl)).1; omega))
            have O2 := Lib.hid own
            have O3 := Lib.hid o1
            have HB := Lib.hid hB2
            clear own o1 hB hB2 hfin hlen tw
            go_wp2_with fail
            go_ret2
            exact ⟨ga, gb, rfl, O3.out, O2.out, hne, HB.out⟩
end Go.Proofs.YthflefdchgpbdaaDoor.Inf
