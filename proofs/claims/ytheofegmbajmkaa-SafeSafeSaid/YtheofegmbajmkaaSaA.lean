/-
  Layer 20, safe: sizes, orders: both functions, one answer. Conditions: as each theorem names.
-/
import Derived.Test.YtheofegmbajmkaaPlZ
import Derived.Test.YtheofegmbajmkaaBlk
import Derived.Test.YtheofegmbajmkaaOrdP
import Derived.Deep.OwnRows
import Derived.Deep.MidRow
import Derived.LoopTactic
import Derived.Deep.RegionHeld
import Derived.Lib.QuietBelow
import Derived.Deep.QuietTactic
namespace Go.Proofs.Ytheofegmbajmkaa.Sa
open Go.ChangeShapes Go.WideShapes Go.ChangeAt Go.RowKit Go.Proofs.Ytheofegmbajmkaa.Kit Go.Proofs.Ytheofegmbajmkaa.Ordr Go.Proofs.Ytheofegmbajmkaa.Blk

instance (l : List Int) (n : Nat) : Decidable (GoodO l n) := by unfold GoodO; exact inferInstance
theorem below_last (w : World) (o : Obj) : Below w.heap.size w (w.alloc o) := (Below.refl _ _).alloc (Nat.le_refl _) _
def inB (lo hi n : Int) : Bool := decide (lo ≤ n ∧ n ≤ hi)
theorem take_next (xs : List Int) (j : Nat) (h : j < xs.length) : xs.take (j + 1) = xs.take j ++ [xs.getD j 0] := by
  rw [List.take_succ_eq_append_getElem h]
  simp [List.getD, List.getElem?_eq_getElem h]
theorem take_all (p : Int → Bool) (xs : List Int) (j : Nat) (h : j < xs.length) : (xs.take (j + 1)).all p = ((xs.take j).all p && p (xs.getD j 0)) := by
  rw [take_next xs j h, List.all_append]
  simp
theorem good_sub {xs : List Int} {n j : Nat} (h : ¬ GoodO (xs.take j) n) : ¬ GoodO xs n := fun hg => h (GoodO.head (r := xs.drop j) (by rw [List.take_append_drop]; exact hg))
theorem ok_split (xs : List Int) (n : Nat) : decide (OrderOk xs n) = (decide (xs.length = n) && decide (GoodO xs n)) := by
  rw [Bool.eq_iff_iff, Bool.and_eq_true, decide_eq_true_iff, decide_eq_true_iff, decide_eq_true_iff]; exact Iff.rfl

set_option maxHeartbeats 1600000 in
theorem sizes_any (A : Option Addr) (xs : List Int) (c N : Nat) (w : World) (hl : xs.length ≤ 100) (hr : Holds w N .i64 A xs) :
    Calls Try.prog 25 #[.slice A xs.length c] w fun e w' => e = .returned (.bool (xs.all (inB 0 2147483647))) ∧ w = w' := by
  have HA := Lib.hid (fun j (h : j < xs.length) => take_all (inB 0 2147483647) xs j h)
  have HE : Hid (xs.take xs.length = xs) := Lib.hid List.take_length
  go_enter Try.func25, Try.ntmps25
  go_wp2
  go_loop [7] (fun i => ∃ j : Nat, j ≤ xs.length ∧ i = .int .i64 j ∧ (xs.take j).all (inB 0 2147483647) = true) (fun i => xs.length - (intOf i).toNat)
  case atStart => exact ⟨0, Nat.zero_le _, rfl, rfl⟩
  case round =>
    obtain ⟨j, hj, rfl, ha⟩ := hrel
    have Ha := Lib.hid ha
    clear ha
    by_cases hlt : j < xs.length
    · obtain ⟨b, off, rfl, hb, hc⟩ := hr (by omega)
      have hcj := hc j hlt
      have hstep := Lib.hid (HA.out j hlt)
      have hsub : inB 0 2147483647 (xs.getD j 0) = false → xs.all (inB 0 2147483647) = false := fun h => by
        rw [List.all_eq_false]
        exact ⟨xs[j], List.getElem_mem hlt, by simpa [List.getD, List.getElem?_eq_getElem hlt] using h⟩
      have d1 : decide ((j : Int) < (xs.length : Int)) = true := decide_eq_true (by omega)
      have d2 : decide (j < xs.length) = true := decide_eq_true hlt
      generalize xs.getD j 0 = z at *
      by_cases h0 : z < 0
      · have hf := Lib.hid (hsub (decide_eq_false (by omega)))
        have d3 : decide (z < 0) = true := decide_eq_true h0
        clear hsub hc
        go_wp2
        go_ret
        exact ⟨by rw [hf.out]; rfl, rfl⟩
      · have d3 : decide (z < 0) = false := decide_eq_false h0
        by_cases h1 : 2147483647 < z
        · have hf := Lib.hid (hsub (decide_eq_false (by omega)))
          have d4 : decide (2147483647 < z) = true := decide_eq_true h1
          clear hsub hc
          go_wp2
          go_ret
          exact ⟨by rw [hf.out]; rfl, rfl⟩
        · have Ht : Hid (inB 0 2147483647 z = true) := Lib.hid (decide_eq_true (by omega))
          have d4 : decide (2147483647 < z) = false := decide_eq_false h1
          clear hsub hc
          go_wp2
          go_round
          case rel => exact ⟨j + 1, hlt, by go_num, by rw [hstep.out, Ha.out, Ht.out]; rfl⟩
          case measure => simp [intOf] <;> omega
    · obtain rfl : j = xs.length := by omega
      have d1 : decide ((xs.length : Int) < (xs.length : Int)) = false := decide_eq_false (by omega)
      have d2 : decide (xs.length < xs.length) = false := decide_eq_false (by omega)
      rw [HE.out] at Ha
      go_wp2
      go_ret
      exact ⟨by rw [Ha.out]; rfl, rfl⟩

/-- What is there by now. -/
def thereF (l : List Int) (i : Nat) : Value := .bool (decide ((i : Int) ∈ l))
theorem there_put {w : World} {g n : Nat} {l : List Int} (h : w.rowIs g 4 n (thereF l)) (k : Nat) : (w.setCell ⟨g, k, none⟩ (.bool true)).rowIs g 4 n (thereF (l ++ [(k : Int)])) := by
  refine (h.set k (.bool true)).congr fun i hi => ?_
  unfold thereF
  by_cases hik : i = k
  · subst hik; simp
  · rw [if_neg hik]
    congr 1
    rw [decide_eq_decide]
    simp only [List.mem_append, List.mem_singleton]
    constructor
    · exact .inl
    · rintro (h | h)
      · exact h
      · omega

set_option maxHeartbeats 3200000 in
theorem order_any (A : Option Addr) (xs : List Int) (c n : Nat) (w : World) (hn : n ≤ 4096) (hl : xs.length ≤ 5000) (hr : Holds w w.heap.size .i64 A xs) :
    Calls Try.prog 27 #[.slice A xs.length c, .int .i64 n] w fun e w' => e = .returned (.bool (decide (OrderOk xs n))) ∧ Below w.heap.size w w' := by
  have hmk : ∀ W, (Instr.makeSlice 43 (.int .i64 (n : Int)) (.int .i64 (n : Int))).run Try.prog W = .ok (.slice (some ⟨W.heap.size, 0, none⟩) n n) (W.alloc (.cells (madeCells #[.bool false] n) 4)) := fun W =>
    run_make_row' (P := Try.prog) 43 4 (.bool false) 1 Try.underlying43 (by kernel_rfl) rfl .i64 .i64 n (by omega) (by omega) W
  have HO := Lib.hid (ok_split xs n)
  by_cases hq : xs.length = n
  · have hd : ((xs.length : Int) == (n : Int)) = true := by rw [beq_iff_eq, hq]
    have hd' : ((n : Int) == (n : Int)) = true := by rw [beq_iff_eq]
    have hd2 : ((xs.length : Int) != (n : Int)) = false := by rw [hq]; simp
    have HL : Hid (decide (xs.length = n) = true) := Lib.hid (decide_eq_true hq)
    have HX := Lib.hid hq
    have HS : Hid (∀ j, j < xs.length → xs.take (j + 1) = xs.take j ++ [xs.getD j 0]) := Lib.hid (take_next xs)
    have HE : Hid (xs.take xs.length = xs) := Lib.hid List.take_length
    have B1 := below_last w (.cells (madeCells #[.bool false] n) 4)
    have hC0 : (w.alloc (.cells (madeCells #[.bool false] n) 4)).rowIs w.heap.size 4 n (thereF (xs.take 0)) :=
      (World.rowIs_made w (.bool false) n 4).congr fun i _ => by unfold thereF; simp
    have hG0 : GoodO (xs.take 0) n := ⟨by simp, by simp⟩
    clear hq
    go_enter Try.func27, Try.ntmps27
    go_wp2
    go_loopw [16] (fun i wr => ∃ j : Nat, j ≤ xs.length ∧ i = .int .i64 j ∧ GoodO (xs.take j) n ∧ wr.rowIs w.heap.size 4 n (thereF (xs.take j)) ∧ Below w.heap.size w wr) (fun i _ => xs.length - (intOf i).toNat)
    case atStart => exact ⟨0, Nat.zero_le _, rfl, hG0, hC0, B1⟩
    case round =>
      obtain ⟨j, hj, rfl, hG, hC, hB⟩ := hrel
      clear hC0 hG0
      by_cases hlt : j < xs.length
      · have hr' := hr.below hB
        obtain ⟨b, off, rfl, hb, hc⟩ := hr' (by omega)
        have hcj := hc j hlt
        have hsn := HS.out j hlt
        have d1 : decide ((j : Int) < (xs.length : Int)) = true := decide_eq_true (by omega)
        have d2 : decide (j < xs.length) = true := decide_eq_true hlt
        clear hc hr' hr
        generalize hx : xs.getD j 0 = x at *
        by_cases h0 : x < 0
        · have hbad : decide (GoodO xs n) = false := decide_eq_false (good_sub (j := j + 1) (by rw [hsn, GoodO.snoc]; omega))
          have Hb := Lib.hid hbad
          have e0 : decide (x < 0) = true := decide_eq_true h0
          clear hbad hsn hx hG hC
          go_wp2
          go_ret
          exact ⟨by rw [HO.out, HL.out, Hb.out]; rfl, hB⟩
        · obtain ⟨k, rfl⟩ : ∃ k : Nat, x = (k : Int) := ⟨x.toNat, by omega⟩
          have e0 : decide ((k : Int) < 0) = false := decide_eq_false (by omega)
          by_cases hk : k < n
          · have e1 : decide ((n : Int) ≤ (k : Int)) = false := decide_eq_false (by omega)
            have e2 : decide (n ≤ k) = false := decide_eq_false (by omega)
            have h3 := hC.cell hk
            have h4 := hC.frozen k
            by_cases hm : (k : Int) ∈ xs.take j
            · have hbad : decide (GoodO xs n) = false := decide_eq_false (good_sub (j := j + 1) (by rw [hsn, GoodO.snoc]; exact fun h => h.2.2.2 hm))
              have Hb := Lib.hid hbad
              rw [show thereF (xs.take j) k = .bool true by unfold thereF; rw [decide_eq_true hm]] at h3
              clear hbad hsn hx hG hC hm
              go_wp2
              go_ret
              exact ⟨by rw [HO.out, HL.out, Hb.out]; rfl, hB⟩
            · have hg2 : Hid (GoodO (xs.take (j + 1)) n) := Lib.hid (by rw [hsn, GoodO.snoc]; exact ⟨hG, by omega, by omega, hm⟩)
              have hc2 := there_put hC k
              rw [← hsn] at hc2
              have HC2 := Lib.hid hc2
              have hb2 := hB.setCell (p := ⟨w.heap.size, k, none⟩) (Nat.le_refl _) (.bool true)
              rw [show thereF (xs.take j) k = .bool false by unfold thereF; rw [decide_eq_false hm]] at h3
              clear hsn hx hG hC hm hc2
              go_wp2
              go_roundw
              case rel => exact ⟨j + 1, hlt, by go_num, hg2.out, HC2.out, hb2⟩
              case measure => simp [intOf] <;> omega
          · have hbad : decide (GoodO xs n) = false := decide_eq_false (good_sub (j := j + 1) (by rw [hsn, GoodO.snoc]; omega))
            have Hb := Lib.hid hbad
            have e1 : decide ((n : Int) ≤ (k : Int)) = true := decide_eq_true (by omega)
            have e2 : decide (n ≤ k) = true := decide_eq_true (by omega)
            clear hbad hsn hx hG hC
            go_wp2
            go_ret
            exact ⟨by rw [HO.out, HL.out, Hb.out]; rfl, hB⟩
      · obtain rfl : j = xs.length := by omega
        have d1 : decide ((xs.length : Int) < (xs.length : Int)) = false := decide_eq_false (by omega)
        have d2 : decide (xs.length < xs.length) = false := decide_eq_false (by omega)
        rw [HE.out] at hG
        have Hb : Hid (decide (GoodO xs n) = true) := Lib.hid (decide_eq_true hG)
        clear hG hC
        go_wp2
        go_ret
        exact ⟨by rw [HO.out, HL.out, Hb.out]; rfl, hB⟩
  · have hd : ((xs.length : Int) == (n : Int)) = false := by rw [beq_eq_false_iff_ne]; omega
    have hd2 : ((xs.length : Int) != (n : Int)) = true := by rw [bne_iff_ne]; omega
    have HL : Hid (decide (xs.length = n) = false) := Lib.hid (decide_eq_false hq)
    clear hq
    go_enter Try.func27, Try.ntmps27
    go_wp2
    go_ret
    exact ⟨by rw [HO.out, HL.out]; rfl, Below.refl _ _⟩
end Go.Proofs.Ytheofegmbajmkaa.Sa
