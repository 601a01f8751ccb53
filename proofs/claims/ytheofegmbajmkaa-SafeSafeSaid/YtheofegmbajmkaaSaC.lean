/-
  Layer 20, safe: a place that is written on, and whether a step asks there: both functions, one answer. Conditions: as each theorem names.
-/
import Derived.Test.YtheofegmbajmkaaSaB
import Derived.BigQuiet
namespace Go.Proofs.Ytheofegmbajmkaa.Sa
open Go.ChangeShapes Go.WideShapes Go.ChangeAt Go.RowKit Go.Proofs.Ytheofegmbajmkaa.Kit Go.Proofs.Ytheofegmbajmkaa.Ordr Go.Proofs.Ytheofegmbajmkaa.Blk Go.Proofs.Ytheofegmbajmkaa.Pl

/-- A place of the call's own: which blocks are written by now. -/
structure Place (w : World) (g gT n : Nat) (bl old : Int) (l : List Int) : Prop where
  o : Block w g 45 #[.int .i64 bl, .int .i64 old, .slice (some ⟨gT, 0, none⟩) n n]
  r : w.rowIs gT 4 n (thereF l)
  d : g ≠ gT
theorem Place.lt {w : World} {g gT n : Nat} {bl old : Int} {l : List Int} (h : Place w g gT n bl old l) : g < w.heap.size ∧ gT < w.heap.size := ⟨h.o.lt, h.r.lt⟩
theorem Place.below {w w' : World} {B g gT n : Nat} {bl old : Int} {l : List Int} (h : Place w g gT n bl old l) (hb : Below B w w') (hg : g < B) (hT : gT < B) : Place w' g gT n bl old l :=
  ⟨h.o.below hb hg, h.r.of_block (hb.block gT hT), h.d⟩

/-- What a right step is. -/
def StpOk (a b x : Int) : Prop := (1 ≤ x ∧ x ≤ 4096) ∧ ((a = 1 ∧ b = 0) ∨ ((a = 2 ∨ a = 3) ∧ 0 ≤ b ∧ b ≤ 2147483647))
theorem right_ok {s : Stp} (h : rightS s = true) : StpOk s.a s.b s.x := by
  unfold rightS rightB at h
  have := of_decide_eq_true h
  unfold StpOk
  omega
def farB (old a b x : Int) : Bool := decide (1 < a ∧ old < b + x)
def meetsB (bl i a b x : Int) : Bool := decide (1 < a ∧ b < (i + 1) * bl ∧ i * bl < b + x)

theorem below_drewN {B : Nat} {w w' : World} (h : Below B w w') (n : Nat) : Below B w (w'.drewN n) := ⟨h.os, h.tape, h.output, h.size, h.block⟩

set_option maxHeartbeats 1600000 in
theorem far_any (g gT n : Nat) (bl old : Int) (l : List Int) (a b x : Int) (A : Option Addr) (m c : Nat) (w : World) (hP : Place w g gT n bl old l) (hs : StpOk a b x) :
    Calls Try.prog 30 #[.pointer (some ⟨g, 0, none⟩), .agg #[.int .u8 a, .int .i64 b, .int .i64 x, .slice A m c]] w (Gives (.bool (farB old a b x)) w) := by
  obtain ⟨D, hD⟩ : ∃ D, farB old a b x = D := ⟨_, rfl⟩
  have HD := Lib.hid hD
  rw [hD]
  clear hD
  unfold farB at HD
  unfold StpOk at hs
  have B1 := below_last w (.cells #[.int .u8 a, .int .i64 b, .int .i64 x, .slice A m c] 41)
  have P1 := hP.below B1 hP.lt.1 hP.lt.2
  have q1 := P1.o.cell 1
  clear hP P1
  by_cases h1 : a = 1
  · subst h1
    obtain rfl : D = false := by rw [← HD.out]; exact decide_eq_false (by omega)
    have d1 : ((1 : Int) != 1) = false := rfl
    go_enter Try.func30, Try.ntmps30
    go_wp2_with fail
    go_quiet (fail)
    go_wp2_with fail
    go_ret
    exact ⟨rfl, below_drewN B1 _⟩
  · have d1 : (a != 1) = true := by rw [bne_iff_ne]; exact h1
    have d2 : (a == 1) = false := by rw [beq_eq_false_iff_ne]; exact h1
    by_cases h2 : old < b + x
    · have d3 : decide (old < b + x) = true := decide_eq_true h2
      obtain rfl : D = true := by rw [← HD.out]; exact decide_eq_true (by omega)
      go_enter Try.func30, Try.ntmps30
      go_wp2_with fail
      go_quiet (fail)
      go_wp2_with fail
      go_ret
      exact ⟨rfl, below_drewN B1 _⟩
    · have d3 : decide (old < b + x) = false := decide_eq_false h2
      obtain rfl : D = false := by rw [← HD.out]; exact decide_eq_false (by omega)
      go_enter Try.func30, Try.ntmps30
      go_wp2_with fail
      go_quiet (fail)
      go_wp2_with fail
      go_ret
      exact ⟨rfl, below_drewN B1 _⟩

set_option maxHeartbeats 1600000 in
theorem meets_any (bl i a b x : Int) (A : Option Addr) (m c : Nat) (w : World) (hs : StpOk a b x) (hi : 0 ≤ i ∧ i ≤ 4000) (hb : 128 ≤ bl ∧ bl ≤ 4096) :
    Calls Try.prog 33 #[.agg #[.int .u8 a, .int .i64 b, .int .i64 x, .slice A m c], .int .i64 bl, .int .i64 i] w (Gives (.bool (meetsB bl i a b x)) w) := by
  obtain ⟨D, hD⟩ : ∃ D, meetsB bl i a b x = D := ⟨_, rfl⟩
  have HD := Lib.hid hD
  rw [hD]
  clear hD
  unfold meetsB at HD
  unfold StpOk at hs
  have p1 := prod_bd (i := i) (bl := bl) (by omega) hb
  have p2 := prod_bd (i := i + 1) (bl := bl) (by omega) hb
  have B1 := below_last w (.cells #[.int .u8 a, .int .i64 b, .int .i64 x, .slice A m c] 41)
  generalize hu : i * bl = u at *
  generalize hv : (i + 1) * bl = v at *
  by_cases h1 : 1 < a
  · have d1 : decide (1 < a) = true := decide_eq_true h1
    by_cases h2 : b < v
    · have d2 : decide (b < v) = true := decide_eq_true h2
      by_cases h3 : u < b + x
      · have d3 : decide (u < b + x) = true := decide_eq_true h3
        obtain rfl : D = true := by rw [← HD.out]; exact decide_eq_true (by omega)
        go_enter Try.func33, Try.ntmps33
        go_wp2_with fail
        go_ret
        exact ⟨rfl, B1⟩
      · have d3 : decide (u < b + x) = false := decide_eq_false h3
        obtain rfl : D = false := by rw [← HD.out]; exact decide_eq_false (by omega)
        go_enter Try.func33, Try.ntmps33
        go_wp2_with fail
        go_ret
        exact ⟨rfl, B1⟩
    · have d2 : decide (b < v) = false := decide_eq_false h2
      obtain rfl : D = false := by rw [← HD.out]; exact decide_eq_false (by omega)
      go_enter Try.func33, Try.ntmps33
      go_wp2_with fail
      go_ret
      exact ⟨rfl, B1⟩
  · have d1 : decide (1 < a) = false := decide_eq_false h1
    obtain rfl : D = false := by rw [← HD.out]; exact decide_eq_false (by omega)
    go_enter Try.func33, Try.ntmps33
    go_wp2_with fail
    go_ret
    exact ⟨rfl, B1⟩

theorem meets_iff {bl b x : Int} (hb : 128 ≤ bl) (i : Int) : (b < (i + 1) * bl ∧ i * bl < b + x) ↔ (b / bl ≤ i ∧ i ≤ (b + x - 1) / bl) := by
  have h1 : b < (i + 1) * bl ↔ b / bl ≤ i := by
    rw [← Int.ediv_lt_iff_lt_mul (by omega)]; omega
  have h2 : i * bl < b + x ↔ i ≤ (b + x - 1) / bl := by
    rw [Int.le_ediv_iff_mul_le (by omega)]; omega
  rw [h1, h2]

set_option maxRecDepth 100000 in
set_option maxHeartbeats 3200000 in
theorem late_any (g gT n : Nat) (bl old : Int) (l : List Int) (a b x : Int) (A : Option Addr) (m c : Nat) (w : World) (hn : n ≤ 40) (hP : Place w g gT n bl old l) (hs : StpOk a b x) (hb : 128 ≤ bl ∧ bl ≤ 4096) (hl : ∀ i ∈ l, 0 ≤ i ∧ i < (n : Int)) :
    Calls Try.prog 31 #[.pointer (some ⟨g, 0, none⟩), .agg #[.int .u8 a, .int .i64 b, .int .i64 x, .slice A m c]] w (Gives (.bool (l.any fun i => meetsB bl i a b x)) w) := by
  obtain ⟨D, hD⟩ : ∃ D, (l.any fun i => meetsB bl i a b x) = D := ⟨_, rfl⟩
  have HD := Lib.hid hD
  rw [hD]
  clear hD
  unfold meetsB at HD
  unfold StpOk at hs
  have B1 := below_last w (.cells #[.int .u8 a, .int .i64 b, .int .i64 x, .slice A m c] 41)
  have P1 := hP.below B1 hP.lt.1 hP.lt.2
  have S1 := Block.new w 41 #[.int .u8 a, .int .i64 b, .int .i64 x, .slice A m c]
  by_cases h1 : a = 1
  · subst h1
    obtain rfl : D = false := by rw [← HD.out]; exact List.any_eq_false.2 fun i _ => by simp
    clear hP P1
    go_enter Try.func31, Try.ntmps31
    go_wp2_with fail
    go_ret
    exact ⟨rfl, B1⟩
  · have d1 : (a == 1) = false := by rw [beq_eq_false_iff_ne]; exact h1
    have q0 := P1.o.cell 0
    have hg := hP.lt
    obtain ⟨p, hp⟩ : ∃ p : Nat, b / bl = (p : Int) := ⟨(b / bl).toNat, by have : 0 ≤ b / bl := Int.ediv_nonneg (by omega) (by omega); omega⟩
    obtain ⟨q, hq⟩ : ∃ q : Nat, (b + x - 1) / bl = (q : Int) := ⟨((b + x - 1) / bl).toNat, by have : 0 ≤ (b + x - 1) / bl := Int.ediv_nonneg (by omega) (by omega); omega⟩
    have hpq : p ≤ q := by
      have : b / bl ≤ (b + x - 1) / bl := Int.ediv_le_ediv (by omega) (by omega)
      omega
    have hq2 : q ≤ 2147487743 := by
      have : (b + x - 1) / bl ≤ b + x - 1 := Int.ediv_le_self _ (by omega)
      omega
    have HM : Hid (∀ i ∈ l, (decide (1 < a ∧ b < (i + 1) * bl ∧ i * bl < b + x) = true ↔ (p : Int) ≤ i ∧ i ≤ q)) := Lib.hid fun i _ => by
      rw [decide_eq_true_iff, meets_iff hb.1, hp, hq]
      exact ⟨fun h => h.2, fun h => ⟨by omega, h⟩⟩
    have HL := Lib.hid hl
    have hbl0 : ¬ bl = 0 := by omega
    have hW : ∀ W, Below (w.heap.size + 1) (w.alloc (.cells #[.int .u8 a, .int .i64 b, .int .i64 x, .slice A m c] 41)) W → Place W g gT n bl old l ∧ Block W w.heap.size 41 #[.int .u8 a, .int .i64 b, .int .i64 x, .slice A m c] := fun W h => ⟨P1.below h (by omega) (by omega), S1.below h (by omega)⟩
    have HW := Lib.hid hW
    have s0 := S1.cell 1
    clear hP hl hW S1 P1
    go_enter Try.func31, Try.ntmps31
    go_wp2_with fail
    go_quiet (fail)
    go_wp2_with fail
    go_loopw [5] (fun i wr => ∃ k : Nat, p ≤ k ∧ k ≤ q + 1 ∧ i = .int .i64 k ∧ (∀ j : Nat, p ≤ j → j < k → (j : Int) ∉ l) ∧ Below (w.heap.size + 1) (w.alloc (.cells #[.int .u8 a, .int .i64 b, .int .i64 x, .slice A m c] 41)) wr) (fun i _ => q + 1 - (intOf i).toNat)
    case atStart => exact ⟨p, Nat.le_refl _, by omega, by rw [hp], fun j h1 h2 => absurd h1 (by omega), below_drewN (Below.refl _ _) _⟩
    case round =>
      obtain ⟨k, hk1, hk2, rfl, ha, hB⟩ := hrel
      have HA := Lib.hid ha
      obtain ⟨PW, SW⟩ := HW.out _ hB
      have r0 := PW.o.cell 0
      have r2 := PW.o.cell 2
      have s1 := SW.cell 1
      have s2 := SW.cell 2
      have BB := B1.trans (hB.mono (by omega))
      clear ha s0 q0
      by_cases hkq : k ≤ q
      · have e1 : decide ((k : Int) ≤ (q : Int)) = true := decide_eq_true (by omega)
        have e2 : decide (k ≤ q) = true := decide_eq_true hkq
        by_cases hkn : k < n
        · have e3 : decide ((k : Int) < (n : Int)) = true := decide_eq_true (by omega)
          have e4 : decide (k < n) = true := decide_eq_true hkn
          have h3 := PW.r.cell hkn
          by_cases hm : (k : Int) ∈ l
          · rw [show thereF l k = .bool true by unfold thereF; rw [decide_eq_true hm]] at h3
            obtain rfl : D = true := by rw [← HD.out]; exact List.any_eq_true.2 ⟨k, hm, (HM.out _ hm).2 (by omega)⟩
            clear PW SW hm
            go_wp2_with fail
            go_quiet (fail)
            go_wp2_with fail
            go_ret
            exact ⟨rfl, below_drewN BB _⟩
          · rw [show thereF l k = .bool false by unfold thereF; rw [decide_eq_false hm]] at h3
            have HM2 := Lib.hid hm
            clear PW SW hm
            go_wp2_with fail
            go_quiet (fail)
            go_wp2_with fail
            go_roundw
            case rel => exact ⟨k + 1, by omega, by omega, by go_num, fun j h1 h2 => by
              by_cases e : j = k
              · subst e; exact HM2.out
              · exact HA.out j h1 (by omega), below_drewN hB _⟩
            case measure => simp [intOf] <;> omega
        · have e3 : decide ((k : Int) < (n : Int)) = false := decide_eq_false (by omega)
          have e4 : decide (k < n) = false := decide_eq_false hkn
          obtain rfl : D = false := by
            rw [← HD.out]
            refine List.any_eq_false.2 fun i hi => ?_
            rw [HM.out i hi]
            have := HL.out i hi
            intro h
            obtain ⟨j, rfl⟩ : ∃ j : Nat, i = (j : Int) := ⟨i.toNat, by omega⟩
            exact HA.out j (by omega) (by omega) hi
          clear PW SW
          go_wp2_with fail
          go_quiet (fail)
          go_wp2_with fail
          go_ret
          exact ⟨rfl, below_drewN BB _⟩
      · have e1 : decide ((k : Int) ≤ (q : Int)) = false := decide_eq_false (by omega)
        have e2 : decide (k ≤ q) = false := decide_eq_false hkq
        obtain rfl : D = false := by
          rw [← HD.out]
          refine List.any_eq_false.2 fun i hi => ?_
          rw [HM.out i hi]
          have := HL.out i hi
          intro h
          obtain ⟨j, rfl⟩ : ∃ j : Nat, i = (j : Int) := ⟨i.toNat, by omega⟩
          exact HA.out j (by omega) (by omega) hi
        clear PW SW
        go_wp2_with fail
        go_quiet (fail)
        go_wp2_with fail
        go_ret
        exact ⟨rfl, below_drewN BB _⟩
end Go.Proofs.Ytheofegmbajmkaa.Sa
