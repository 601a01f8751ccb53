/-
  Layer 1, sha: the document's: roots, what is padded: contracts. Conditions: as each theorem names.
-/
import Derived.Test.YtpnodocjpedcmaaDoorMShS
namespace Go.Proofs.YtpnodocjpedcmaaDoor.Sha
open Go.ChangeShapes Go.WideShapes Go.ChangeAt Go.RowKit Go.Proofs.YtpnodocjpedcmaaDoor.Kit

/-- A build whose value is known as a whole. -/
theorem wpList_build_known {P : Program} {w : World} {ops : Array Oper} {rest : List Oper} {o : Oper} {a : Act} {Q : Exit → Act → World → Prop} (hgd : o.guard = none) (ty : TypeId) (parts : Array (Nat × Operand)) (ho : o.op = .build ty parts)
    (V : Value) (hrun : ∀ W, (Instr.build ty (parts.map fun (i, x) => (i, a.eval x))).run P W = .ok V W) (h : wpList P ops Q rest (a.put o.dst V) w) : wpList P ops Q (o :: rest) a w := by
  refine wpList_plain hgd fun K hK => ?_
  unfold Oper.wp
  simp only [execOp, ho, Sem.run_bind, Sem.run_pure]
  rw [hrun]
  exact hK _ _ h

set_option maxRecDepth 100000 in
set_option maxHeartbeats 1600000 in
theorem roots_any (w : World) :
    Calls Tryd.prog 98 #[] w fun e w' => e = .returned (arrV .u32 cubesL) ∧ Below w.heap.size w w' := by
  have arr64t : Tryd.prog.underlying 166 = some (.array 64 150) := Tryd.underlying166
  have hz : ∀ W, (zeroValue 166).run Tryd.prog W = .ok (.agg Z64) W := fun _ => by kernel_rfl
  go_enter Tryd.func98, Tryd.ntmps98
  go_wp2_with (first
    | (refine wpList_build_known rfl _ _ rfl (arrV .u32 cubesL) (fun W => by kernel_rfl) ?_)
    | (refine wpList_store_arr rfl _ _ _ rfl (arr64 w) rfl rfl (by rfl) (by kernel_rfl) ?_; intro w2 r2 g2))
  refine bodyPost_ret (v := arrV .u32 cubesL) (results_cell_row rfl _ _ w.heap.size 166 _ (0, 0) _ rfl r2 arr64t rfl (by kernel_rfl)) rfl ⟨rfl, ?_⟩
  exact ((Below.refl _ w).alloc (Nat.le_refl _) _).trans (below_of_grown g2 (by simp) (fun g hg => by injection hg with hg; omega))

theorem zeros_more {n j : Nat} (h : j < tailZ n) : ¬ (n + 1 + j) % 64 = 56 := by unfold tailZ at h; omega
theorem zeros_done (n : Nat) : (n + 1 + tailZ n) % 64 = 56 := by unfold tailZ; omega

set_option maxRecDepth 100000 in
set_option maxHeartbeats 3200000 in
theorem padded_any (A : Option Addr) (xs : List Int) (c : Nat) (w : World) (hx : xs.length ≤ 1000000000) (hc : xs.length ≤ c) (hm : c ≤ maxLen) (hr : Holds w w.heap.size .u8 A xs) :
    Calls Tryd.prog 99 #[.slice A xs.length c] w fun e w' => ∃ v, e = .returned v ∧ Own w' w.heap.size 5 .u8 v (padL xs) ∧ Below w.heap.size w w' := by
  have own0 := Own.empty (k := .u8) w 5 (Nat.le_refl _)
  have hb0 : Below w.heap.size w (w.alloc (.cells #[] 5)) := (Below.refl _ _).alloc (Nat.le_refl _) _
  have hr0 : Holds (w.alloc (.cells #[] 5)) w.heap.size .u8 A xs := hr.below hb0
  have htl := tailZ_lt xs.length
  go_enter Tryd.func99, Tryd.ntmps99
  go_wp2_with (first
    | (have _t := own0; at_builtin; refine wpList_append_ints (ys := xs) _ rfl _ _ _ rfl elem8 own0 rfl rfl hr0 (by simp; omega) (by simp) ?_; clear _t own0; intro v3 w3 own3 hg3 hb3 hv3)
    | (have _t := own3; at_builtin; refine wpList_append_one (z := 128) _ rfl _ _ _ rfl elem8 own3 rfl rfl (by simp; omega) (by have := hb3.size; simp at this; omega) ?_; clear _t own3; intro v4 w4 own4 hg4 hb4))
  have hb4' : Below w.heap.size w w4 := (hb0.trans hb3).trans hb4
  clear hg3 hg4 hb3 hb4 hv3 hr0 hb0
  rw [List.nil_append] at own4
  go_loopw [3] (fun v wr => ∃ j : Nat, j ≤ tailZ xs.length ∧ Own wr w.heap.size 5 .u8 v (xs ++ [128] ++ List.replicate j 0) ∧ Below w.heap.size w wr) (fun v _ => xs.length + 1 + tailZ xs.length - leftOf v)
  case atStart => exact ⟨0, by omega, by simpa using own4, hb4'⟩
  case round =>
    clear own4 hb4'
    obtain ⟨j, hj, own5, hb5⟩ := hrel
    obtain ⟨A5, c5, rfl, hl5, hm5, _⟩ := own5.opened
    have hll : (xs ++ [128] ++ List.replicate j (0 : Int)).length = xs.length + 1 + j := by simp; omega
    have hnx : xs ++ [128] ++ List.replicate j (0 : Int) ++ [0] = xs ++ [128] ++ List.replicate (j + 1) 0 := by rw [List.append_assoc, ← List.replicate_succ']
    have hlast : xs ++ [128] ++ List.replicate (tailZ xs.length) (0 : Int) = xs ++ endA xs.length 0 := by simp [endA]
    unfold maxLen at hm5
    by_cases hlt : j < tailZ xs.length
    · have d := zeros_more hlt
      generalize xs ++ [128] ++ List.replicate j (0 : Int) = ys at *
      have d0 : (((ys.length : Int) % 64) != 56) = true := by rw [bne_iff_ne]; omega
      have hys : ys.length ≤ 1000000065 := by omega
      have hys2 : ys.length < xs.length + 1 + tailZ xs.length := by omega
      have Hnx := Lib.hid hnx
      clear d hll hnx hlast
      go_wp2_with (at_builtin; refine wpList_append_one (z := 0) _ rfl _ _ _ rfl elem8 own5 rfl rfl (by omega) hb5.size ?_; clear own5; intro v6 w6 own6 hg6 hb6; obtain ⟨A6, c6, rfl, hl6, hm6, _⟩ := own6.opened)
      go_roundw
      case rel => exact ⟨j + 1, by omega, by rw [List.length_append, List.length_singleton, Hnx.out] at own6; exact own6, hb5.trans hb6⟩
      case measure => simp [leftOf] <;> omega
    · obtain rfl : j = tailZ xs.length := by omega
      have d := zeros_done xs.length
      rw [hlast] at own5 hl5 hll
      rw [hlast]
      clear hlast hnx
      have hdone : padL xs = xs ++ endA xs.length 8 := by unfold padL; rw [endA_full]
      have hnext := fun i (h : i < 8) => endA_next (n := xs.length) h
      have hlenA := fun i (h : i ≤ 8) => endA_length (n := xs.length) h
      have htl2 := tailZ_lt xs.length
      generalize hys : xs ++ endA xs.length 0 = ys at *
      have d0 : (((ys.length : Int) % 64) != 56) = false := by rw [bne_eq_false_iff_eq]; omega
      have Hys := Lib.hid hys
      have Hdone := Lib.hid hdone
      have Hnext := Lib.hid hnext
      have HlenA := Lib.hid hlenA
      clear hys d hll hdone hnext hlenA
      go_wp2_with fail
      go_loopw [3, 5] (fun v s wr => ∃ i : Nat, i ≤ 8 ∧ s = .int .i64 i ∧ Own wr w.heap.size 5 .u8 v (xs ++ endA xs.length i) ∧ Below w.heap.size w wr) (fun _ s _ => 8 - (intOf s).toNat)
      case atStart => exact ⟨0, by omega, rfl, by rw [Hys.out]; exact own5, hb5⟩
      case round =>
        clear own5 hb5
        obtain ⟨i, hi, rfl, own7, hb7⟩ := hrel
        obtain ⟨A7, c7, rfl, hl7, hm7, _⟩ := own7.opened
        have hz7 : (xs ++ endA xs.length i).length ≤ 1000000100 := by rw [List.length_append, HlenA.out i hi]; omega
        by_cases hlt : i < 8
        · have hv := lenB_get (n := xs.length) hlt
          have hn7 : xs ++ endA xs.length i ++ [(xs.length : Int) * 8 / 2 ^ (56 - 8 * i) % 256] = xs ++ endA xs.length (i + 1) := by rw [Hnext.out i hlt, hv, List.append_assoc]
          generalize xs ++ endA xs.length i = zs at *
          have Hn7 := Lib.hid hn7
          clear hv hn7
          go_wp2_with (at_builtin; refine wpList_append_one (z := (xs.length : Int) * 8 / 2 ^ (56 - 8 * i) % 256) _ rfl _ _ _ rfl elem8 own7 rfl rfl (by omega) hb7.size ?_; clear own7; intro v8 w8 own8 hg8 hb8)
          go_roundw
          case rel => exact ⟨i + 1, by omega, by go_num, by rw [Hn7.out] at own8; exact own8, hb7.trans hb8⟩
          case measure => simp [intOf] <;> omega
        · obtain rfl : i = 8 := by omega
          rw [← Hdone.out] at own7 ⊢
          go_wp2_with fail
          go_ret
          exact ⟨_, rfl, own7, hb7⟩
end Go.Proofs.YtpnodocjpedcmaaDoor.Sha
