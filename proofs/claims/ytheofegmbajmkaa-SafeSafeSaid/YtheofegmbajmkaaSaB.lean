/-
  Layer 20, safe: what is asked ahead of all blocks, and sizes: both functions, one answer. Conditions: as each theorem names.
-/
import Derived.Test.YtheofegmbajmkaaSaA
import Derived.Test.YtheofegmbajmkaaArr
namespace Go.Proofs.Ytheofegmbajmkaa.Sa
open Go.ChangeShapes Go.WideShapes Go.ChangeAt Go.RowKit Go.Proofs.Ytheofegmbajmkaa.Kit Go.Proofs.Ytheofegmbajmkaa.Ordr Go.Proofs.Ytheofegmbajmkaa.Blk

def ArgOk (bl old new : Int) : Prop := (128 ≤ bl ∧ bl ≤ 4096) ∧ (0 ≤ old ∧ old ≤ 2147483647) ∧ (0 ≤ new ∧ new ≤ 2147483647)
instance (bl old new : Int) : Decidable (ArgOk bl old new) := by unfold ArgOk; exact inferInstance
/-- The error's number ahead of all blocks. -/
def aheadE (np : Nat) (ord : List Int) (bl old new : Int) : Int := if ArgOk bl old new then (if (np : Int) = blocks new bl then (if OrderOk ord np then 0 else 23) else 23) else 1

theorem count_next (xs : List Int) (x : Int) (j : Nat) (h : j < xs.length) : ((xs.take (j + 1)).count x : Int) = ((xs.take j).count x : Int) + if xs.getD j 0 = x then 1 else 0 := by
  rw [take_next xs j h, List.count_append, List.count_singleton]
  by_cases e : xs.getD j 0 = x
  · rw [if_pos e, if_pos (by rw [beq_iff_eq]; exact e)]; rfl
  · rw [if_neg e, if_neg (by rw [beq_iff_eq]; exact e)]; rfl

set_option maxHeartbeats 3200000 in
theorem once_any (A : Option Addr) (xs : List Int) (c n : Nat) (w : World) (hn : n ≤ 4096) (hl : xs.length ≤ 5000) (hr : Holds w w.heap.size .i64 A xs) :
    Calls Try.prog 32 #[.slice A xs.length c, .int .i64 n] w fun e w' => e = .returned (.bool (decide (OrderOk xs n))) ∧ w = w' := by
  obtain ⟨D, hD⟩ : ∃ D, decide (OrderOk xs n) = D := ⟨_, rfl⟩
  have HD := Lib.hid hD
  rw [hD]
  clear hD
  by_cases hq : xs.length = n
  · have hd : ((xs.length : Int) == (n : Int)) = true := by rw [beq_iff_eq, hq]
    have hd2 : ((xs.length : Int) != (n : Int)) = false := by rw [hq]; simp
    have hd3 : ((n : Int) == (n : Int)) = true := by rw [beq_iff_eq]
    have HX := Lib.hid hq
    have HO := Lib.hid (order_count xs n)
    clear hq
    go_enter Try.func32, Try.ntmps32
    go_wp2
    go_loop [5] (fun i => ∃ k : Nat, k ≤ n ∧ i = .int .i64 k ∧ (∀ j : Nat, j < k → xs.count (j : Int) = 1)) (fun i => n - (intOf i).toNat)
    case atStart => exact ⟨0, Nat.zero_le _, rfl, fun j hj => absurd hj (by omega)⟩
    case round =>
      obtain ⟨k, hk, rfl, ha⟩ := hrel
      have HA := Lib.hid ha
      clear ha
      by_cases hlt : k < n
      · have d1 : decide ((k : Int) < (n : Int)) = true := decide_eq_true (by omega)
        have d2 : decide (k < n) = true := decide_eq_true hlt
        have HN := Lib.hid (fun j (h : j < xs.length) => count_next xs (k : Int) j h)
        have HE : Hid (xs.take xs.length = xs) := Lib.hid List.take_length
        have HC : Hid (∀ j, (xs.take j).count (k : Int) ≤ xs.length) := Lib.hid (fun j => Nat.le_trans List.count_le_length (by rw [List.length_take]; omega))
        go_wp2
        go_loop [6, 19] (fun m i => ∃ j : Nat, j ≤ xs.length ∧ i = .int .i64 j ∧ m = .int .i64 ((xs.take j).count (k : Int) : Int)) (fun _ i => xs.length - (intOf i).toNat)
        case atStart => exact ⟨0, Nat.zero_le _, rfl, rfl⟩
        case round =>
          obtain ⟨j, hj, rfl, rfl⟩ := hrel
          have hcj := HC.out j
          by_cases hlt2 : j < xs.length
          · obtain ⟨b, off, rfl, hb, hc⟩ := hr (by omega)
            have hcell := hc j hlt2
            have Hn := Lib.hid (HN.out j hlt2)
            have d3 : decide ((j : Int) < (xs.length : Int)) = true := decide_eq_true (by omega)
            have d4 : decide (j < xs.length) = true := decide_eq_true hlt2
            clear hc
            generalize xs.getD j 0 = z at *
            generalize (xs.take j).count (k : Int) = q at *
            by_cases hz : z = k
            · have d5 : (z == (k : Int)) = true := by rw [beq_iff_eq]; exact hz
              have HZ := Lib.hid hz
              clear hz
              go_wp2
              go_round
              case rel => exact ⟨j + 1, hlt2, by go_num, by rw [Hn.out, if_pos HZ.out]⟩
              case measure => simp [intOf] <;> omega
            · have d5 : (z == (k : Int)) = false := by rw [beq_eq_false_iff_ne]; exact hz
              have HZ := Lib.hid hz
              clear hz
              go_wp2
              go_round
              case rel => exact ⟨j + 1, hlt2, by go_num, by rw [Hn.out, if_neg HZ.out, Int.add_zero]⟩
              case measure => simp [intOf] <;> omega
          · obtain rfl : j = xs.length := by omega
            have d3 : decide ((xs.length : Int) < (xs.length : Int)) = false := decide_eq_false (by omega)
            have d4 : decide (xs.length < xs.length) = false := decide_eq_false (by omega)
            rw [HE.out] at hcj ⊢
            by_cases hc1 : xs.count (k : Int) = 1
            · have HC1 := Lib.hid hc1
              have d5 : ((xs.count (k : Int) : Int) != 1) = false := by rw [hc1]; rfl
              clear hc1
              go_wp2
              go_round
              case rel => exact ⟨k + 1, hlt, by go_num, fun j hj => by
                by_cases e : j = k
                · subst e; exact HC1.out
                · exact HA.out j (by omega)⟩
              case measure => simp [intOf] <;> omega
            · have d5 : ((xs.count (k : Int) : Int) != 1) = true := by rw [bne_iff_ne]; omega
              obtain rfl : D = false := by rw [← HD.out]; exact decide_eq_false fun h => hc1 ((HO.out.1 h).2 k hlt)
              clear hc1
              go_wp2
              go_ret
              exact ⟨rfl, rfl⟩
      · obtain rfl : k = n := by omega
        have d1 : decide ((k : Int) < (k : Int)) = false := decide_eq_false (by omega)
        have d2 : decide (k < k) = false := decide_eq_false (by omega)
        obtain rfl : D = true := by rw [← HD.out]; exact decide_eq_true (HO.out.2 ⟨HX.out, HA.out⟩)
        go_wp2
        go_ret
        exact ⟨rfl, rfl⟩
  · have hd : ((xs.length : Int) == (n : Int)) = false := by rw [beq_eq_false_iff_ne]; omega
    have hd2 : ((xs.length : Int) != (n : Int)) = true := by rw [bne_iff_ne]; omega
    obtain rfl : D = false := by rw [← HD.out]; exact decide_eq_false fun h => hq h.1
    clear hq
    go_enter Try.func32, Try.ntmps32
    go_wp2
    go_ret
    exact ⟨rfl, rfl⟩

set_option maxHeartbeats 1600000 in
theorem asked_any (P : Option Addr) (np pc : Nat) (A : Option Addr) (xs : List Int) (c : Nat) (bl old new : Int) (w : World) (hp : np ≤ 40) (hl : xs.length ≤ 60) (hnew : -9223372036854775808 ≤ new ∧ new ≤ 9223372036854775807) (hr : Holds w w.heap.size .i64 A xs) :
    Calls Try.prog 15 #[.slice P np pc, .slice A xs.length c, .int .i64 bl, .int .i64 old, .int .i64 new] w fun e w' => e = .returned (.int .i64 (aheadE np xs bl old new)) ∧ Below w.heap.size w w' := by
  obtain ⟨D, hD⟩ : ∃ D, aheadE np xs bl old new = D := ⟨_, rfl⟩
  have HD := Lib.hid hD
  rw [hD]
  clear hD
  unfold aheadE at HD
  by_cases t0 : bl < 128
  · have d0 : decide (bl < 128) = true := decide_eq_true t0
    obtain rfl : D = 1 := by rw [← HD.out, if_neg (by unfold ArgOk; omega)]
    go_enter Try.func15, Try.ntmps15
    go_wp2_with fail
    go_ret
    exact ⟨rfl, Below.refl _ _⟩
  have d0 : decide (bl < 128) = false := decide_eq_false t0
  by_cases t1 : 4096 < bl
  · have d1 : decide (4096 < bl) = true := decide_eq_true t1
    obtain rfl : D = 1 := by rw [← HD.out, if_neg (by unfold ArgOk; omega)]
    go_enter Try.func15, Try.ntmps15
    go_wp2_with fail
    go_ret
    exact ⟨rfl, Below.refl _ _⟩
  have d1 : decide (4096 < bl) = false := decide_eq_false t1
  have B1 := below_last w (.cells #[.int .i64 old, .int .i64 new] 3)
  have GS := Lib.hid (sizes_any (some ⟨w.heap.size, 0, none⟩) [old, new] 2 _ _ (by simp) (Arr.holds_all (Arr.new w 3 .i64 [old, new])))
  by_cases t2 : ArgOk bl old new
  · have ht : [old, new].all (inB 0 2147483647) = true := by
      unfold ArgOk at t2
      simp [inB]
      omega
    rw [ht] at GS
    rw [if_pos t2] at HD
    have GB := Lib.hid (fun W => blocks_any new bl W hnew)
    have b0 := blocks_bd new bl
    have hb0 : 0 ≤ blocks new bl ∧ blocks new bl ≤ 2147483647 := by
      unfold ArgOk at t2
      by_cases h : 1 ≤ new
      · have := b0.2.1 h; omega
      · have := b0.2.2.1 (by omega); omega
    have GO := Lib.hid (order_any A xs c np _ (by omega) (by omega) ((hr.below B1).more B1.size))
    clear b0 ht t2
    generalize blocks new bl = q at *
    by_cases hq : (np : Int) = q
    · have d2 : ((np : Int) != q) = false := by rw [← hq]; simp
      have d3 : ((np : Int) == q) = true := by rw [beq_iff_eq]; exact hq
      rw [if_pos hq] at HD
      by_cases ho : OrderOk xs np
      · rw [if_pos ho] at HD
        rw [decide_eq_true ho] at GO
        obtain rfl := HD.out
        clear ho hq HD
        go_enter Try.func15, Try.ntmps15
        go_wp2_with (first
          | (go_at_call 25; refine GS.out.mono ?_; rintro e w1 ⟨rfl, rfl⟩)
          | (go_at_call 26; refine (GB.out _).mono ?_; rintro e w1 ⟨rfl, rfl⟩)
          | (go_at_call 27; refine GO.out.mono ?_; rintro e w2 ⟨rfl, hb2⟩))
        go_ret
        exact ⟨rfl, B1.trans (hb2.mono B1.size)⟩
      · rw [if_neg ho] at HD
        rw [decide_eq_false ho] at GO
        obtain rfl := HD.out
        clear ho hq HD
        go_enter Try.func15, Try.ntmps15
        go_wp2_with (first
          | (go_at_call 25; refine GS.out.mono ?_; rintro e w1 ⟨rfl, rfl⟩)
          | (go_at_call 26; refine (GB.out _).mono ?_; rintro e w1 ⟨rfl, rfl⟩)
          | (go_at_call 27; refine GO.out.mono ?_; rintro e w2 ⟨rfl, hb2⟩))
        go_ret
        exact ⟨rfl, B1.trans (hb2.mono B1.size)⟩
    · have d2 : ((np : Int) != q) = true := by rw [bne_iff_ne]; exact hq
      have d3 : ((np : Int) == q) = false := by rw [beq_eq_false_iff_ne]; exact hq
      rw [if_neg hq] at HD
      obtain rfl := HD.out
      clear hq HD
      go_enter Try.func15, Try.ntmps15
      go_wp2_with (first
        | (go_at_call 25; refine GS.out.mono ?_; rintro e w1 ⟨rfl, rfl⟩)
        | (go_at_call 26; refine (GB.out _).mono ?_; rintro e w1 ⟨rfl, rfl⟩))
      go_ret
      exact ⟨rfl, B1⟩
  · have ht : [old, new].all (inB 0 2147483647) = false := by
      unfold ArgOk at t2
      simp [inB]
      omega
    rw [ht] at GS
    rw [if_neg t2] at HD
    obtain rfl := HD.out
    clear ht t2 HD
    go_enter Try.func15, Try.ntmps15
    go_wp2_with (go_at_call 25; refine GS.out.mono ?_; rintro e w1 ⟨rfl, rfl⟩)
    go_ret
    exact ⟨rfl, B1⟩

set_option maxHeartbeats 1600000 in
theorem ahead_any (P : Option Addr) (np pc : Nat) (A : Option Addr) (xs : List Int) (c : Nat) (bl old new : Int) (w : World) (hp : np ≤ 40) (hl : xs.length ≤ 60) (hnew : -9223372036854775808 ≤ new ∧ new ≤ 9223372036854775807) (hr : Holds w w.heap.size .i64 A xs) :
    Calls Try.prog 18 #[.slice P np pc, .slice A xs.length c, .int .i64 bl, .int .i64 old, .int .i64 new] w fun e w' => e = .returned (.int .i64 (aheadE np xs bl old new)) ∧ w = w' := by
  obtain ⟨D, hD⟩ : ∃ D, aheadE np xs bl old new = D := ⟨_, rfl⟩
  have HD := Lib.hid hD
  rw [hD]
  clear hD
  unfold aheadE at HD
  have GB := Lib.hid (fun W => rblocks_any new bl W hnew)
  have GO := Lib.hid (once_any A xs c np w (by omega) (by omega) hr)
  by_cases t2 : ArgOk bl old new
  · rw [if_pos t2] at HD
    unfold ArgOk at t2
    have b0 := blocks_bd new bl
    have hb0 : 0 ≤ blocks new bl ∧ blocks new bl ≤ 2147483647 := by
      by_cases h : 1 ≤ new
      · have := b0.2.1 h; omega
      · have := b0.2.2.1 (by omega); omega
    have a0 : decide (bl < 128) = false := decide_eq_false (by omega)
    have a1 : decide (4096 < bl) = false := decide_eq_false (by omega)
    have a2 : decide (old < 0) = false := decide_eq_false (by omega)
    have a3 : decide (2147483647 < old) = false := decide_eq_false (by omega)
    have a4 : decide (new < 0) = false := decide_eq_false (by omega)
    have a5 : decide (2147483647 < new) = false := decide_eq_false (by omega)
    clear b0 t2
    generalize blocks new bl = q at *
    by_cases hq : (np : Int) = q
    · have d2 : ((np : Int) != q) = false := by rw [← hq]; simp
      have d3 : ((np : Int) == q) = true := by rw [beq_iff_eq]; exact hq
      rw [if_pos hq] at HD
      by_cases ho : OrderOk xs np
      · rw [if_pos ho] at HD
        rw [decide_eq_true ho] at GO
        obtain rfl := HD.out
        clear ho hq HD
        go_enter Try.func18, Try.ntmps18
        go_wp2_with (first
          | (go_at_call 23; refine (GB.out _).mono ?_; rintro e w1 ⟨rfl, rfl⟩)
          | (go_at_call 32; refine GO.out.mono ?_; rintro e w2 ⟨rfl, rfl⟩))
        go_ret
        exact ⟨rfl, rfl⟩
      · rw [if_neg ho] at HD
        rw [decide_eq_false ho] at GO
        obtain rfl := HD.out
        clear ho hq HD
        go_enter Try.func18, Try.ntmps18
        go_wp2_with (first
          | (go_at_call 23; refine (GB.out _).mono ?_; rintro e w1 ⟨rfl, rfl⟩)
          | (go_at_call 32; refine GO.out.mono ?_; rintro e w2 ⟨rfl, rfl⟩))
        go_ret
        exact ⟨rfl, rfl⟩
    · have d2 : ((np : Int) != q) = true := by rw [bne_iff_ne]; exact hq
      have d3 : ((np : Int) == q) = false := by rw [beq_eq_false_iff_ne]; exact hq
      rw [if_neg hq] at HD
      obtain rfl := HD.out
      clear hq HD
      go_enter Try.func18, Try.ntmps18
      go_wp2_with (go_at_call 23; refine (GB.out _).mono ?_; rintro e w1 ⟨rfl, rfl⟩)
      go_ret
      exact ⟨rfl, rfl⟩
  · rw [if_neg t2] at HD
    obtain rfl := HD.out
    unfold ArgOk at t2
    clear HD GO GB
    by_cases t0 : bl < 128
    · have d0 : decide (bl < 128) = true := decide_eq_true t0
      go_enter Try.func18, Try.ntmps18
      go_wp2_with fail
      go_ret
      exact ⟨rfl, rfl⟩
    have d0 : decide (bl < 128) = false := decide_eq_false t0
    by_cases t1 : 4096 < bl
    · have d1 : decide (4096 < bl) = true := decide_eq_true t1
      go_enter Try.func18, Try.ntmps18
      go_wp2_with fail
      go_ret
      exact ⟨rfl, rfl⟩
    have d1 : decide (4096 < bl) = false := decide_eq_false t1
    by_cases t3 : old < 0
    · have d3 : decide (old < 0) = true := decide_eq_true t3
      go_enter Try.func18, Try.ntmps18
      go_wp2_with fail
      go_ret
      exact ⟨rfl, rfl⟩
    have d3 : decide (old < 0) = false := decide_eq_false t3
    by_cases t4 : 2147483647 < old
    · have d4 : decide (2147483647 < old) = true := decide_eq_true t4
      go_enter Try.func18, Try.ntmps18
      go_wp2_with fail
      go_ret
      exact ⟨rfl, rfl⟩
    have d4 : decide (2147483647 < old) = false := decide_eq_false t4
    by_cases t5 : new < 0
    · have d5 : decide (new < 0) = true := decide_eq_true t5
      go_enter Try.func18, Try.ntmps18
      go_wp2_with fail
      go_ret
      exact ⟨rfl, rfl⟩
    have d5 : decide (new < 0) = false := decide_eq_false t5
    have d6 : decide (2147483647 < new) = true := decide_eq_true (by omega)
    go_enter Try.func18, Try.ntmps18
    go_wp2_with fail
    go_ret
    exact ⟨rfl, rfl⟩

/-- How many bytes a block has. -/
def sizeE (i bl new : Int) : Int := if new - i * bl < bl then new - i * bl else bl
theorem prod_bd {i bl : Int} (hi : 0 ≤ i ∧ i ≤ 4096) (hb : 128 ≤ bl ∧ bl ≤ 4096) : 0 ≤ i * bl ∧ i * bl ≤ 16777216 := by
  have h1 : i * bl ≤ 4096 * bl := Int.mul_le_mul_of_nonneg_right hi.2 (by omega)
  have h2 : 0 ≤ i * bl := Int.mul_nonneg hi.1 (by omega)
  omega
theorem size_any (i bl new : Int) (w : World) (hi : 0 ≤ i ∧ i ≤ 4096) (hb : 128 ≤ bl ∧ bl ≤ 4096) (hn : 0 ≤ new ∧ new ≤ 2147483647) :
    Calls Try.prog 17 #[.int .i64 new, .int .i64 bl, .int .i64 i] w fun e w' => e = .returned (.int .i64 (sizeE i bl new)) ∧ w = w' := by
  have hp := prod_bd hi hb
  unfold sizeE
  by_cases h : new - i * bl < bl
  · rw [if_pos h]
    go_enter Try.func17, Try.ntmps17
    go_wp2
    go_ret
    exact ⟨rfl, rfl⟩
  · rw [if_neg h]
    go_enter Try.func17, Try.ntmps17
    go_wp2
    go_ret
    exact ⟨rfl, rfl⟩
theorem rsize_any (i bl new : Int) (w : World) (hi : 0 ≤ i ∧ i ≤ 4096) (hb : 128 ≤ bl ∧ bl ≤ 4096) (hn : 0 ≤ new ∧ new ≤ 2147483647) :
    Calls Try.prog 20 #[.int .i64 i, .int .i64 bl, .int .i64 new] w fun e w' => e = .returned (.int .i64 (sizeE i bl new)) ∧ w = w' := by
  have hp := prod_bd hi hb
  unfold sizeE
  by_cases h : new - i * bl < bl
  · rw [if_pos h]
    have d1 : decide (new - i * bl < bl) = true := decide_eq_true h
    go_enter Try.func20, Try.ntmps20
    go_wp2
    go_ret
    exact ⟨rfl, rfl⟩
  · rw [if_neg h]
    have d1 : decide (new - i * bl < bl) = false := decide_eq_false h
    go_enter Try.func20, Try.ntmps20
    go_wp2
    go_ret
    exact ⟨rfl, rfl⟩
end Go.Proofs.Ytheofegmbajmkaa.Sa
