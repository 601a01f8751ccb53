/-
  Layer 22, manifest: whether a manifest may be: contracts. Conditions: as each theorem names.
-/
import Derived.Test.YtpdofegmobbipaaMnA
import Derived.Test.YtpdofegmobbipaaBlk
import Derived.Lib.QuietBelow
import Derived.Deep.QuietTactic
import Derived.BigQuiet
import Derived.Deep.MidRow
namespace Go.Proofs.Ytpdofegmobbipaa.Mn
open Go.ChangeShapes Go.WideShapes Go.ChangeAt Go.RowKit Go.Proofs.Ytpdofegmobbipaa.Kit Go.Proofs.Ytpdofegmobbipaa.Ordr Go.Proofs.Ytpdofegmobbipaa.Blk

theorem below_last (w : World) (o : Obj) : Below w.heap.size w (w.alloc o) := (Below.refl _ _).alloc (Nat.le_refl _) _
def inB (lo hi n : Int) : Bool := decide (lo ≤ n ∧ n ≤ hi)
theorem inB_yes {lo hi n : Int} (h : inB lo hi n = true) : lo ≤ n ∧ n ≤ hi := of_decide_eq_true h

theorem bk_any (n : Int) (w : World) : Calls Try.prog 27 #[.int .i64 n] w fun e w' => e = .returned (.bool (!inB 128 4096 n)) ∧ w = w' := by
  by_cases h0 : 128 ≤ n
  · by_cases h1 : n ≤ 4096
    · rw [show inB 128 4096 n = true from decide_eq_true ⟨h0, h1⟩]
      have d1 : decide (n < 128) = false := decide_eq_false (by omega)
      have d2 : decide (4096 < n) = false := decide_eq_false (by omega)
      go_enter Try.func27, Try.ntmps27
      go_wp2
      go_ret
      exact ⟨rfl, rfl⟩
    · rw [show inB 128 4096 n = false from decide_eq_false (by omega)]
      go_enter Try.func27, Try.ntmps27
      go_wp2
      go_ret
      exact ⟨rfl, rfl⟩
  · rw [show inB 128 4096 n = false from decide_eq_false (by omega)]
    go_enter Try.func27, Try.ntmps27
    go_wp2
    go_ret
    exact ⟨rfl, rfl⟩
theorem sz_any (n : Int) (w : World) : Calls Try.prog 28 #[.int .i64 n] w fun e w' => e = .returned (.bool (!inB 0 2147483647 n)) ∧ w = w' := by
  by_cases h0 : 0 ≤ n
  · by_cases h1 : n ≤ 2147483647
    · rw [show inB 0 2147483647 n = true from decide_eq_true ⟨h0, h1⟩]
      have d1 : decide (n < 0) = false := decide_eq_false (by omega)
      have d2 : decide (2147483647 < n) = false := decide_eq_false (by omega)
      go_enter Try.func28, Try.ntmps28
      go_wp2
      go_ret
      exact ⟨rfl, rfl⟩
    · rw [show inB 0 2147483647 n = false from decide_eq_false (by omega)]
      go_enter Try.func28, Try.ntmps28
      go_wp2
      go_ret
      exact ⟨rfl, rfl⟩
  · rw [show inB 0 2147483647 n = false from decide_eq_false (by omega)]
    go_enter Try.func28, Try.ntmps28
    go_wp2
    go_ret
    exact ⟨rfl, rfl⟩

theorem take_all (p : Int → Bool) (xs : List Int) (j : Nat) (h : j < xs.length) : (xs.take (j + 1)).all p = ((xs.take j).all p && p (xs.getD j 0)) := by
  rw [List.take_succ_eq_append_getElem h, List.all_append]
  simp [List.getD, List.getElem?_eq_getElem h]

set_option maxHeartbeats 1600000 in
theorem none1_any (p : Int → Bool) (hp : ∀ x W, Calls Try.prog 27 #[.int .i64 x] W fun e w' => e = .returned (.bool (!p x)) ∧ W = w') (A : Option Addr) (xs : List Int) (c : Nat) (w : World) (hl : xs.length ≤ 100) (hr : Holds w w.heap.size .i64 A xs) :
    Calls Try.prog 26 #[.func (.func 27) #[] #[], .slice A xs.length c] w fun e w' => e = .returned (.bool (!xs.all p)) ∧ w = w' := by
  have HP := Lib.hid hp
  have HA := Lib.hid (fun j (h : j < xs.length) => take_all p xs j h)
  have HE : Hid (xs.take xs.length = xs) := Lib.hid List.take_length
  clear hp
  go_enter Try.func26, Try.ntmps26
  go_wp2
  go_loop [9] (fun i => ∃ j : Nat, j ≤ xs.length ∧ i = .int .i64 j ∧ (xs.take j).all p = true) (fun i => xs.length - (intOf i).toNat)
  case atStart => exact ⟨0, Nat.zero_le _, rfl, rfl⟩
  case round =>
    obtain ⟨j, hj, rfl, ha⟩ := hrel
    have Ha := Lib.hid ha
    clear ha
    by_cases hlt : j < xs.length
    · obtain ⟨b, off, rfl, hb, hc⟩ := hr (by omega)
      have hcj := hc j hlt
      have GF := Lib.hid (HP.out (xs.getD j 0))
      have hstep := Lib.hid (HA.out j hlt)
      have hsub : p (xs.getD j 0) = false → xs.all p = false := fun h => by
        rw [List.all_eq_false]
        exact ⟨xs[j], List.getElem_mem hlt, by simpa [List.getD, List.getElem?_eq_getElem hlt] using h⟩
      have d1 : decide ((j : Int) < (xs.length : Int)) = true := decide_eq_true (by omega)
      have d2 : decide (j < xs.length) = true := decide_eq_true hlt
      generalize xs.getD j 0 = z at *
      obtain ⟨t, ht⟩ : ∃ t : Bool, p z = t := ⟨_, rfl⟩
      rw [ht] at GF
      cases t with
      | true =>
        have Ht := Lib.hid ht
        clear ht hsub hc
        go_wp2_with (go_at_call 27; refine (GF.out _).mono ?_; rintro e w1 ⟨rfl, rfl⟩)
        go_round
        case rel => exact ⟨j + 1, hlt, by go_num, by rw [hstep.out, Ha.out, Ht.out]; rfl⟩
        case measure => simp [intOf] <;> omega
      | false =>
        have hf := Lib.hid (hsub ht)
        clear ht hsub hc
        go_wp2_with (go_at_call 27; refine (GF.out _).mono ?_; rintro e w1 ⟨rfl, rfl⟩)
        go_ret
        exact ⟨by rw [hf.out]; rfl, rfl⟩
    · obtain rfl : j = xs.length := by omega
      have d1 : decide ((xs.length : Int) < (xs.length : Int)) = false := decide_eq_false (by omega)
      have d2 : decide (xs.length < xs.length) = false := decide_eq_false (by omega)
      rw [HE.out] at Ha
      go_wp2
      go_ret
      exact ⟨by rw [Ha.out]; rfl, rfl⟩

set_option maxHeartbeats 1600000 in
theorem none2_any (p : Int → Bool) (hp : ∀ x W, Calls Try.prog 28 #[.int .i64 x] W fun e w' => e = .returned (.bool (!p x)) ∧ W = w') (A : Option Addr) (xs : List Int) (c : Nat) (w : World) (hl : xs.length ≤ 100) (hr : Holds w w.heap.size .i64 A xs) :
    Calls Try.prog 26 #[.func (.func 28) #[] #[], .slice A xs.length c] w fun e w' => e = .returned (.bool (!xs.all p)) ∧ w = w' := by
  have HP := Lib.hid hp
  have HA := Lib.hid (fun j (h : j < xs.length) => take_all p xs j h)
  have HE : Hid (xs.take xs.length = xs) := Lib.hid List.take_length
  clear hp
  go_enter Try.func26, Try.ntmps26
  go_wp2
  go_loop [9] (fun i => ∃ j : Nat, j ≤ xs.length ∧ i = .int .i64 j ∧ (xs.take j).all p = true) (fun i => xs.length - (intOf i).toNat)
  case atStart => exact ⟨0, Nat.zero_le _, rfl, rfl⟩
  case round =>
    obtain ⟨j, hj, rfl, ha⟩ := hrel
    have Ha := Lib.hid ha
    clear ha
    by_cases hlt : j < xs.length
    · obtain ⟨b, off, rfl, hb, hc⟩ := hr (by omega)
      have hcj := hc j hlt
      have GF := Lib.hid (HP.out (xs.getD j 0))
      have hstep := Lib.hid (HA.out j hlt)
      have hsub : p (xs.getD j 0) = false → xs.all p = false := fun h => by
        rw [List.all_eq_false]
        exact ⟨xs[j], List.getElem_mem hlt, by simpa [List.getD, List.getElem?_eq_getElem hlt] using h⟩
      have d1 : decide ((j : Int) < (xs.length : Int)) = true := decide_eq_true (by omega)
      have d2 : decide (j < xs.length) = true := decide_eq_true hlt
      generalize xs.getD j 0 = z at *
      obtain ⟨t, ht⟩ : ∃ t : Bool, p z = t := ⟨_, rfl⟩
      rw [ht] at GF
      cases t with
      | true =>
        have Ht := Lib.hid ht
        clear ht hsub hc
        go_wp2_with (go_at_call 28; refine (GF.out _).mono ?_; rintro e w1 ⟨rfl, rfl⟩)
        go_round
        case rel => exact ⟨j + 1, hlt, by go_num, by rw [hstep.out, Ha.out, Ht.out]; rfl⟩
        case measure => simp [intOf] <;> omega
      | false =>
        have hf := Lib.hid (hsub ht)
        clear ht hsub hc
        go_wp2_with (go_at_call 28; refine (GF.out _).mono ?_; rintro e w1 ⟨rfl, rfl⟩)
        go_ret
        exact ⟨by rw [hf.out]; rfl, rfl⟩
    · obtain rfl : j = xs.length := by omega
      have d1 : decide ((xs.length : Int) < (xs.length : Int)) = false := decide_eq_false (by omega)
      have d2 : decide (xs.length < xs.length) = false := decide_eq_false (by omega)
      rw [HE.out] at Ha
      go_wp2
      go_ret
      exact ⟨by rw [Ha.out]; rfl, rfl⟩

theorem ordered_any (m : Int) (n : Int) (w : World) : Calls Try.prog 31 #[.int .u8 m, .int .i64 n] w fun e w' => e = .returned (.int .i64 (if m = 2 then n else 0)) ∧ w = w' := by
  by_cases h : m = 2
  · rw [if_pos h]
    have hd : (m == 2) = true := by rw [beq_iff_eq]; exact h
    go_enter Try.func31, Try.ntmps31
    go_wp2
    go_ret
    exact ⟨rfl, rfl⟩
  · rw [if_neg h]
    have hd : (m == 2) = false := by rw [beq_eq_false_iff_ne]; exact h
    go_enter Try.func31, Try.ntmps31
    go_wp2
    go_ret
    exact ⟨rfl, rfl⟩

theorem ok_split (xs : List Int) (n : Nat) : decide (OrderOk xs n) = (decide (xs.length = n) && decide (GoodO xs n)) := by
  rw [Bool.eq_iff_iff, Bool.and_eq_true, decide_eq_true_iff, decide_eq_true_iff, decide_eq_true_iff]; exact Iff.rfl

set_option maxHeartbeats 1600000 in
theorem order_any (A : Option Addr) (xs : List Int) (c n : Nat) (w : World) (hn : n ≤ 4096) (hxl : xs.length ≤ 9223372036854775807) (hr : Holds w w.heap.size .i64 A xs) :
    Calls Try.prog 30 #[.slice A xs.length c, .int .i64 n] w fun e w' => e = .returned (.bool (decide (OrderOk xs n))) ∧ Below w.heap.size w w' := by
  have hmk : ∀ W, (Instr.makeSlice 63 (.int .i64 (n : Int)) (.int .i64 (n : Int))).run Try.prog W = .ok (.slice (some ⟨W.heap.size, 0, none⟩) n n) (W.alloc (.cells (madeCells #[.bool false] n) 4)) := fun W =>
    run_make_row' (P := Try.prog) 63 4 (.bool false) 1 Try.underlying63 (by kernel_rfl) rfl .i64 .i64 n (by omega) (by omega) W
  have HO := Lib.hid (ok_split xs n)
  have B1 := below_last w (.cells #[.int .i64 n] 3)
  have B2 := (B1.alloc B1.size (.cells (madeCells #[.bool false] n) 4))
  have B3 := (B2.alloc B2.size (.cells #[.slice (some ⟨w.heap.size + 1, 0, none⟩) n n] 63))
  by_cases hl : xs.length = n
  · have hd : ((xs.length : Int) == (n : Int)) = true := by rw [beq_iff_eq, hl]
    have hd' : ((n : Int) == (n : Int)) = true := by rw [beq_iff_eq]
    have hC : Caps (((w.alloc (.cells #[.int .i64 n] 3)).alloc (.cells (madeCells #[.bool false] n) 4)).alloc (.cells #[.slice (some ⟨w.heap.size + 1, 0, none⟩) n n] 63)) w.heap.size (w.heap.size + 1 + 1) (w.heap.size + 1) n [] := by
      refine ⟨?_, ?_, ?_, by omega, by omega⟩
      · exact (((Block.new w 3 #[.int .i64 n]).alloc _).alloc _).cell 0
      · have := (Block.new ((w.alloc (.cells #[.int .i64 n] 3)).alloc (.cells (madeCells #[.bool false] n) 4)) 63 #[.slice (some ⟨w.heap.size + 1, 0, none⟩) n n]).cell 0
        simpa using this
      · have := (World.rowIs_made (w.alloc (.cells #[.int .i64 n] 3)) (.bool false) n 4).alloc (.cells #[.slice (some ⟨w.heap.size + 1, 0, none⟩) n n] 63)
        rw [show (w.alloc (.cells #[.int .i64 n] 3)).heap.size = w.heap.size + 1 by simp] at this
        exact this.congr fun i _ => by unfold thereF; simp
    have GN := Lib.hid (none_order A xs c n w.heap.size (w.heap.size + 1 + 1) (w.heap.size + 1) w.heap.size _ (by omega) (hr.below B3) (by omega) (by omega) (by omega) hC)
    have HL : Hid (decide (xs.length = n) = true) := Lib.hid (decide_eq_true hl)
    have HX := Lib.hid hl
    clear hC hl
    obtain ⟨b, hb⟩ : ∃ b, decide (GoodO xs n) = b := ⟨_, rfl⟩
    rw [hb] at GN HO
    clear hb
    go_enter Try.func30, Try.ntmps30
    go_wp2_with (go_at_call 26; refine GN.out.mono ?_; rintro e w1 ⟨rfl, hb1⟩)
    go_ret
    exact ⟨by rw [HO.out, HL.out]; cases b <;> rfl, B3.trans hb1⟩
  · have hd : ((xs.length : Int) == (n : Int)) = false := by rw [beq_eq_false_iff_ne]; omega
    have HL : Hid (decide (xs.length = n) = false) := Lib.hid (decide_eq_false hl)
    clear hl
    go_enter Try.func30, Try.ntmps30
    go_wp2
    go_ret
    exact ⟨by rw [HO.out, HL.out]; rfl, B3⟩
end Go.Proofs.Ytpdofegmobbipaa.Mn
