/-
  Layer 8, bits: the example, and how much is gone through. Conditions: as each theorem names.
-/
import Derived.Test.YtpofdlcadobdoaaBitH
import Derived.Test.YtpofdlcadobdoaaStr
import Derived.Test.YtpofdlcadobdoaaRec3
namespace Go.Proofs.Ytpofdlcadobdoaa.Bits
open Go.ChangeShapes Go.WideShapes Go.ChangeAt Go.RowKit Go.Proofs.Ytpofdlcadobdoaa.Kit

theorem conv_any (w : World) (A : Option Addr) (xs : List Int) (c B : Nat) (hr : Holds w B .u8 A xs) :
    (convert 27 9 (.slice A xs.length c)).run Try.prog w = .ok (.string (strOfNums xs)) w :=
  conv_bytes Try.underlying27 Try.underlying5 Try.underlying9 w A xs c B hr

theorem Wr.below {w w' : World} {B g : Nat} {v : Value} {m : List Int} (W : Wr w B g v m) (hb : Below w.heap.size w w') : Wr w' B g v m := ⟨W.blk.below hb W.blk.lt, W.own.below hb, W.bit⟩

theorem wr_back {B g : Nat} {v : Value} {m : List Int} {w w1 w' : World} {v' : Value} (W : Wr w1 B g v m) (hBg : B ≤ g) (hB : B ≤ w.heap.size) (hb : Below B w w1) (t : TurnsIn (foot g v) w1 w') : Below B w w' :=
  hb.trans (t.toBelow (Nat.le_trans hB hb.size) fun _ h => foot_not W hBg h)

set_option maxHeartbeats 1600000 in
theorem awake_any (w : World) : Calls Try.prog 8 #[] w fun e w' => e = .returned (.bool true) ∧ Below w.heap.size w w' := by
  have hs : strOfNums (bytesOf ((([] ++ num 1 1 ++ num 2 2 ++ (num 1 2).reverse : List Int).length + 7) / 8) ([] ++ num 1 1 ++ num 2 2 ++ (num 1 2).reverse)) = { data := #[21] } := by decide
  have hl : ((([] ++ num 1 1 ++ num 2 2 ++ (num 1 2).reverse : List Int).length : Nat) : Int) = 5 := by decide
  have hll : ([] ++ num 1 1 ++ num 2 2 ++ (num 1 2).reverse : List Int).length ≤ 1000000 := by decide
  have Hs := Lib.hid hs
  have Hl := Lib.hid hl
  have Hll := Lib.hid hll
  clear hs hl hll
  go_enter Try.func8, Try.ntmps8
  go_wp2_with fail
  refine (new_wr w).mono ?_
  rintro e w1 ⟨rfl, W1, b1⟩
  have hs1 := b1.size
  go_wp2_with fail
  refine (put_any w.heap.size w.heap.size 1 1 1 [] _ w1 (by omega) (by omega) (by decide) W1 hs1 (by simp)).mono ?_
  rintro e w2 ⟨rfl, v2, W2, t2, n2⟩
  have b2 := wr_back (v' := v2) W1 (Nat.le_refl _) (Nat.le_refl _) b1 t2
  have hs2 := b2.size
  go_wp2_with fail
  refine (put_any w.heap.size w.heap.size 2 2 2 _ _ w2 (by omega) (by omega) (by decide) W2 hs2 (by decide)).mono ?_
  rintro e w3 ⟨rfl, v3, W3, t3, n3⟩
  have b3 := wr_back (v' := v3) W2 (Nat.le_refl _) (Nat.le_refl _) b2 t3
  have hs3 := b3.size
  go_wp2_with fail
  refine (code_any w.heap.size w.heap.size 1 2 2 _ _ w3 (by omega) (by omega) (by decide) W3 hs3 (by decide)).mono ?_
  rintro e w4 ⟨rfl, v4, W4, t4, n4⟩
  have b4 := wr_back (v' := v4) W3 (Nat.le_refl _) (Nat.le_refl _) b3 t4
  generalize ([] ++ num 1 1 ++ num 2 2 ++ (num 1 2).reverse : List Int) = m at *
  go_wp2_with fail
  refine (wbytes_any _ _ m _ w4 W4 Hll.out).mono ?_
  rintro e w5 ⟨v, rfl, own, l5⟩
  obtain ⟨A5, cap5, rfl, _, _, hr5⟩ := own.opened
  have hcv := conv_any w5 A5 _ cap5 _ hr5
  rw [Hs.out] at hcv
  have W5 := W4.below l5
  go_wp2_with fail
  refine (len_any _ _ m _ w5 W5 Hll.out).mono ?_
  rintro e w6 ⟨rfl, l6⟩
  rw [Hl.out]
  go_wp2_with fail
  go_ret
  have m4 := b4.trans (l5.mono b4.size)
  exact ⟨rfl, m4.trans (l6.mono m4.size)⟩

/-- More than is gone through? -/
def greatB (ss : List Stp) : Bool := decide (100 < ss.length) || ss.any fun s => decide (100 < s.zs.length)

theorem great_yes {ss : List Stp} (h : greatB ss = false) : ss.length ≤ 100 ∧ ∀ s ∈ ss, s.zs.length ≤ 100 := by
  unfold greatB at h
  simp only [Bool.or_eq_false_iff, decide_eq_false_iff_not, List.any_eq_false, decide_eq_true_eq] at h
  exact ⟨by omega, fun s hs => by have := h.2 s hs; omega⟩

theorem great_any {k0 k1 k2 : IntKind} (A : Option Addr) (ss : List Stp) (c : Nat) (w : World) (hc : ss.length ≤ c) (hm : c ≤ maxLen) (hr : HoldsE (StpIn k0 k1 k2 w w.heap.size) 4 w w.heap.size A ss) :
    Calls Try.prog 7 #[.slice A ss.length c] w fun e w' => e = .returned (.bool (greatB ss)) ∧ w = w' := by
  by_cases hl : ss.length ≤ 100
  · have d0 : decide ((100 : Int) < (ss.length : Int)) = false := decide_eq_false (by omega)
    go_enter Try.func7, Try.ntmps7
    go_wp2_with fail
    go_loop [3] (fun s => ∃ i : Nat, i ≤ ss.length ∧ s = .int .i64 i ∧ Hid (∀ (j : Nat) (s : Stp), j < i → ss[j]? = some s → s.zs.length ≤ 100)) (fun s => ss.length - (intOf s).toNat)
    case atStart => exact ⟨0, Nat.zero_le _, rfl, Lib.hid fun j s h => by omega⟩
    case round =>
      obtain ⟨i, hi, rfl, hall⟩ := hrel
      by_cases hlt : i < ss.length
      · obtain ⟨b, off, rfl, hbl, _, _, _, c3, _, _, _, h1, h2, _, _⟩ := stepAt hr hlt
        have hz : ss[i]? = some ss[i] := List.getElem?_eq_getElem hlt
        have Hz := Lib.hid hz
        unfold maxLen at h2
        clear hz
        have hmem := List.getElem_mem hlt
        generalize ss[i] = s at *
        by_cases h100 : s.zs.length ≤ 100
        · have d1 : decide ((100 : Int) < (s.zs.length : Int)) = false := decide_eq_false (by omega)
          go_wp2_with fail
          go_round
          case rel =>
            refine ⟨i + 1, by omega, by go_num, Lib.hid fun j s' hj hs' => ?_⟩
            rcases Nat.lt_or_ge j i with h' | h'
            · exact hall.out j s' h' hs'
            · obtain rfl : j = i := by omega
              rw [Hz.out] at hs'
              injection hs' with hs'
              subst hs'
              exact h100
          case measure => simp [intOf] <;> omega
        · have d1 : decide ((100 : Int) < (s.zs.length : Int)) = true := decide_eq_true (by omega)
          have hg : greatB ss = true := by
            unfold greatB
            rw [Bool.or_eq_true]
            exact .inr (List.any_eq_true.2 ⟨s, hmem, decide_eq_true (by omega)⟩)
          have Hg := Lib.hid hg
          clear hg
          go_wp2_with fail
          go_ret
          exact ⟨congrArg (fun z => Ending.returned (.bool z)) Hg.out.symm, rfl⟩
      · obtain rfl : i = ss.length := by omega
        have hg : greatB ss = false := by
          unfold greatB
          simp only [Bool.or_eq_false_iff, decide_eq_false_iff_not, List.any_eq_false, decide_eq_true_eq]
          refine ⟨by omega, fun s hs => ?_⟩
          obtain ⟨j, hj, rfl⟩ := List.getElem_of_mem hs
          have := hall.out j _ hj (List.getElem?_eq_getElem hj)
          omega
        have Hg := Lib.hid hg
        clear hg
        go_wp2_with fail
        go_ret
        exact ⟨congrArg (fun z => Ending.returned (.bool z)) Hg.out.symm, rfl⟩
  · have d0 : decide ((100 : Int) < (ss.length : Int)) = true := decide_eq_true (by omega)
    have hg : greatB ss = true := by
      unfold greatB
      rw [decide_eq_true (by omega : 100 < ss.length)]
      rfl
    rw [hg]
    go_enter Try.func7, Try.ntmps7
    go_wp2_with fail
    go_ret
    exact ⟨rfl, rfl⟩
end Go.Proofs.Ytpofdlcadobdoaa.Bits
