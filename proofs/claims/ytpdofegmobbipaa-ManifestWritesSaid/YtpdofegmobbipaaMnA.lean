/-
  Layer 22, manifest: whether an order has each of so many numbers once: contracts. Conditions: as each theorem names.
-/
import Derived.Test.YtpdofegmobbipaaRows
import Derived.Test.YtpdofegmobbipaaArr
import Derived.Test.YtpdofegmobbipaaOrdP
import Derived.Deep.OwnRows
import Derived.LoopTactic
import Derived.Deep.RegionHeld
namespace Go.Proofs.Ytpdofegmobbipaa.Mn
open Go.ChangeShapes Go.WideShapes Go.ChangeAt Go.RowKit Go.Proofs.Ytpdofegmobbipaa.Kit Go.Proofs.Ytpdofegmobbipaa.Ordr

instance (l : List Int) (n : Nat) : Decidable (GoodO l n) := by unfold GoodO; exact inferInstance
/-- What is there by now. -/
def thereF (l : List Int) (i : Nat) : Value := .bool (decide ((i : Int) ∈ l))
/-- The closure's own cells. -/
structure Caps (w : World) (g3 g5 gT n : Nat) (l : List Int) : Prop where
  many : w.cell? ⟨g3, 0, none⟩ = some (.int .i64 n)
  slice : w.cell? ⟨g5, 0, none⟩ = some (.slice (some ⟨gT, 0, none⟩) n n)
  row : w.rowIs gT 4 n (thereF l)
  n3 : g3 ≠ gT
  n5 : g5 ≠ gT

theorem Caps.put {w : World} {g3 g5 gT n : Nat} {l : List Int} (h : Caps w g3 g5 gT n l) (k : Nat) : Caps (w.setCell ⟨gT, k, none⟩ (.bool true)) g3 g5 gT n (l ++ [(k : Int)]) := by
  refine ⟨?_, ?_, (h.row.set k (.bool true)).congr fun i hi => ?_, h.n3, h.n5⟩
  · exact (World.cell?_setCell_far _ _ _ _ (Ne.symm h.n3)).trans h.many
  · exact (World.cell?_setCell_far _ _ _ _ (Ne.symm h.n5)).trans h.slice
  · unfold thereF
    by_cases hik : i = k
    · subst hik; simp
    · rw [if_neg hik]
      congr 1
      rw [decide_eq_decide]
      simp only [List.mem_append, List.mem_singleton]
      constructor
      · exact .inl
      · rintro (h | h)
        · exact h
        · omega

theorem one_low (w : World) (g3 g5 : Nat) (x : Int) (h : x < 0) : Calls Try.prog 37 #[.int .i64 x, .pointer (some ⟨g3, 0, none⟩), .pointer (some ⟨g5, 0, none⟩)] w fun e w' => e = .returned (.bool true) ∧ w = w' := by
  have hd : decide (x < 0) = true := decide_eq_true h
  go_enter Try.func37, Try.ntmps37
  go_wp2
  go_ret
  exact ⟨rfl, rfl⟩
section
variable {w : World} {g3 g5 gT n : Nat} {l : List Int} (hC : Caps w g3 g5 gT n l)
include hC
theorem one_high (k : Nat) (h : n ≤ k) : Calls Try.prog 37 #[.int .i64 k, .pointer (some ⟨g3, 0, none⟩), .pointer (some ⟨g5, 0, none⟩)] w fun e w' => e = .returned (.bool true) ∧ w = w' := by
  have hd : decide ((k : Int) < 0) = false := decide_eq_false (by omega)
  have hd2 : decide ((n : Int) ≤ (k : Int)) = true := decide_eq_true (by omega)
  have hd3 : decide (n ≤ k) = true := decide_eq_true (by omega)
  have h1 := hC.many
  clear hC
  go_enter Try.func37, Try.ntmps37
  go_wp2
  go_ret
  exact ⟨rfl, rfl⟩
theorem one_again (k : Nat) (h : k < n) (hm : (k : Int) ∈ l) : Calls Try.prog 37 #[.int .i64 k, .pointer (some ⟨g3, 0, none⟩), .pointer (some ⟨g5, 0, none⟩)] w fun e w' => e = .returned (.bool true) ∧ w = w' := by
  have hd : decide ((k : Int) < 0) = false := decide_eq_false (by omega)
  have hd2 : decide ((n : Int) ≤ (k : Int)) = false := decide_eq_false (by omega)
  have hd3 : decide (n ≤ k) = false := decide_eq_false (by omega)
  have h1 := hC.many
  have h2 := hC.slice
  have h3 := hC.row.cell h
  rw [show thereF l k = .bool true by unfold thereF; rw [decide_eq_true hm]] at h3
  clear hC
  go_enter Try.func37, Try.ntmps37
  go_wp2
  go_ret
  exact ⟨rfl, rfl⟩
theorem one_new (k : Nat) (h : k < n) (hm : (k : Int) ∉ l) : Calls Try.prog 37 #[.int .i64 k, .pointer (some ⟨g3, 0, none⟩), .pointer (some ⟨g5, 0, none⟩)] w fun e w' => e = .returned (.bool false) ∧ w.setCell ⟨gT, k, none⟩ (.bool true) = w' := by
  have hd : decide ((k : Int) < 0) = false := decide_eq_false (by omega)
  have hd2 : decide ((n : Int) ≤ (k : Int)) = false := decide_eq_false (by omega)
  have hd3 : decide (n ≤ k) = false := decide_eq_false (by omega)
  have h1 := hC.many
  have h2 := hC.slice
  have h3 := hC.row.cell h
  have h4 := hC.row.frozen k
  rw [show thereF l k = .bool false by unfold thereF; rw [decide_eq_false hm]] at h3
  clear hC
  go_enter Try.func37, Try.ntmps37
  go_wp2
  go_ret
  exact ⟨rfl, rfl⟩
end

theorem take_next (xs : List Int) (j : Nat) (h : j < xs.length) : xs.take (j + 1) = xs.take j ++ [xs.getD j 0] := by
  rw [List.take_succ_eq_append_getElem h]
  simp [List.getD, List.getElem?_eq_getElem h]
theorem good_sub {xs : List Int} {n j : Nat} (h : ¬ GoodO (xs.take j) n) : ¬ GoodO xs n := fun hg => h (GoodO.head (r := xs.drop j) (by rw [List.take_append_drop]; exact hg))

set_option maxHeartbeats 3200000 in
theorem none_order (A : Option Addr) (xs : List Int) (c n g3 g5 gT N : Nat) (w : World) (hl : xs.length ≤ 5000) (hr : Holds w N .i64 A xs) (h3 : N ≤ g3) (h5 : N ≤ g5) (hT : N ≤ gT) (hC : Caps w g3 g5 gT n []) :
    Calls Try.prog 26 #[.func (.func 37) #[] #[.pointer (some ⟨g3, 0, none⟩), .pointer (some ⟨g5, 0, none⟩)], .slice A xs.length c] w fun e w' => e = .returned (.bool (!decide (GoodO xs n))) ∧ Below N w w' := by
  have HS : Hid (∀ j, j < xs.length → xs.take (j + 1) = xs.take j ++ [xs.getD j 0]) := Lib.hid (take_next xs)
  have HE : Hid (xs.take xs.length = xs) := Lib.hid List.take_length
  have hC0 : Caps w g3 g5 gT n (xs.take 0) := hC
  have hG0 : GoodO (xs.take 0) n := ⟨by simp, by simp⟩
  clear hC
  go_enter Try.func26, Try.ntmps26
  go_wp2
  go_loopw [9] (fun i wr => ∃ j : Nat, j ≤ xs.length ∧ i = .int .i64 j ∧ GoodO (xs.take j) n ∧ Caps wr g3 g5 gT n (xs.take j) ∧ Below N w wr) (fun i _ => xs.length - (intOf i).toNat)
  case atStart => exact ⟨0, Nat.zero_le _, rfl, hG0, hC0, Below.refl _ _⟩
  case round =>
    obtain ⟨j, hj, rfl, hG, hC, hB⟩ := hrel
    clear hC0 hG0
    by_cases hlt : j < xs.length
    · have hr' := hr.below hB
      obtain ⟨b, off, rfl, hb, hc⟩ := hr' (by omega)
      have hcj := hc j hlt
      have hsn := HS.out j hlt
      have d1 : decide ((j : Int) < (xs.length : Int)) = true := decide_eq_true (by omega)
      have d2 : decide (j < xs.length) = true := decide_eq_true hlt
      clear hc hr' hr
      generalize hx : xs.getD j 0 = x at *
      by_cases h0 : x < 0
      · have hbad : decide (GoodO xs n) = false := decide_eq_false (good_sub (j := j + 1) (by rw [hsn, GoodO.snoc]; omega))
        have Hb := Lib.hid hbad
        have GF := Lib.hid (one_low wr g3 g5 x h0)
        clear hbad hsn hx
        go_wp2_with (go_at_call 37; refine GF.out.mono ?_; rintro e w1 ⟨rfl, rfl⟩)
        go_ret
        exact ⟨by rw [Hb.out]; rfl, hB⟩
      · obtain ⟨k, rfl⟩ : ∃ k : Nat, x = (k : Int) := ⟨x.toNat, by omega⟩
        by_cases hk : k < n
        · by_cases hm : (k : Int) ∈ xs.take j
          · have hbad : decide (GoodO xs n) = false := decide_eq_false (good_sub (j := j + 1) (by rw [hsn, GoodO.snoc]; exact fun h => h.2.2.2 hm))
            have Hb := Lib.hid hbad
            have GF := Lib.hid (one_again hC k hk hm)
            clear hbad hsn hx
            go_wp2_with (go_at_call 37; refine GF.out.mono ?_; rintro e w1 ⟨rfl, rfl⟩)
            go_ret
            exact ⟨by rw [Hb.out]; rfl, hB⟩
          · have hg2 : GoodO (xs.take (j + 1)) n := by rw [hsn, GoodO.snoc]; exact ⟨hG, by omega, by omega, hm⟩
            have hc2 := hC.put k
            rw [← hsn] at hc2
            have hb2 := hB.setCell (p := ⟨gT, k, none⟩) hT (.bool true)
            have GF := Lib.hid (one_new hC k hk hm)
            clear hsn hx
            go_wp2_with (go_at_call 37; refine GF.out.mono ?_; rintro e w1 ⟨rfl, rfl⟩)
            go_roundw
            case rel => exact ⟨j + 1, hlt, by go_num, hg2, hc2, hb2⟩
            case measure => simp [intOf] <;> omega
        · have hbad : decide (GoodO xs n) = false := decide_eq_false (good_sub (j := j + 1) (by rw [hsn, GoodO.snoc]; omega))
          have Hb := Lib.hid hbad
          have GF := Lib.hid (one_high hC k (by omega))
          clear hbad hsn hx
          go_wp2_with (go_at_call 37; refine GF.out.mono ?_; rintro e w1 ⟨rfl, rfl⟩)
          go_ret
          exact ⟨by rw [Hb.out]; rfl, hB⟩
    · obtain rfl : j = xs.length := by omega
      have d1 : decide ((xs.length : Int) < (xs.length : Int)) = false := decide_eq_false (by omega)
      have d2 : decide (xs.length < xs.length) = false := decide_eq_false (by omega)
      rw [HE.out] at hG
      have Hb : Hid (decide (GoodO xs n) = true) := Lib.hid (decide_eq_true hG)
      clear hG hC
      go_wp2
      go_ret
      exact ⟨by rw [Hb.out]; rfl, hB⟩
end Go.Proofs.Ytpdofegmobbipaa.Mn
