/-
  Layer 8, bits: the document's lists of bits. Conditions: as each theorem names.
-/
import Derived.Test.YthflefdchgpbdaaDoorMGIces2
namespace Go.Proofs.YthflefdchgpbdaaDoor.Bits
open Go.ChangeShapes Go.WideShapes Go.ChangeAt Go.RowKit Go.Proofs.YthflefdchgpbdaaDoor.Kit

theorem wrap_mod2 (y : Int) : IntKind.u8.wrap y % 2 = y % 2 := by
  rw [IntKind.wrap_u8]
  omega

theorem clamp_lt {n : Int} {i : Nat} : i < clampN n ↔ (i : Int) < n ∧ i < 32 := by
  unfold clampN
  by_cases h : n < 0
  · rw [if_pos h]; omega
  · rw [if_neg h]
    by_cases h' : 32 < n
    · rw [if_pos h']; omega
    · rw [if_neg h']; omega

set_option maxHeartbeats 1600000 in
theorem number_any (x n : Int) (w : World) (hx : 0 ≤ x ∧ x < 4294967296) (hn : -9223372036854775808 ≤ n ∧ n ≤ 9223372036854775807) :
    Calls Tryd.prog 23 #[.int .u32 x, .int .i64 n] w (GivesRow (num x (clampN n)) w) := by
  have own0 := Own.empty (B := w.heap.size) w 5 .u8 (Nat.le_refl _)
  have hb0 : Below w.heap.size w (w.alloc (.cells #[] 5)) := (Below.refl _ _).alloc (Nat.le_refl _) _
  have hN := clamp_le n
  have hlt := fun i => clamp_lt (n := n) (i := i)
  have HL := Lib.hid hlt
  clear hlt
  generalize clampN n = N at *
  go_enter Tryd.func23, Tryd.ntmps23
  go_wp2
  go_loopw [5, 6] (fun v s wr => ∃ i : Nat, i ≤ N ∧ s = .int .i64 i ∧ Own wr w.heap.size 5 .u8 v (num x i) ∧ Below w.heap.size w wr) (fun _ s _ => N - (intOf s).toNat)
  case atStart => exact ⟨0, Nat.zero_le _, rfl, own0, hb0⟩
  case round =>
    obtain ⟨i, hi, rfl, own1, hb1⟩ := hrel
    have hl1 := num_length i x
    have hsz := hb1.size
    by_cases hc : i < N
    · obtain ⟨h1, h2⟩ := (HL.out i).1 hc
      have hs := num_snoc i x
      have Hs := Lib.hid hs
      have d1 : decide ((i : Int) < n) = true := decide_eq_true h1
      have d2 : decide ((i : Int) < 32) = true := decide_eq_true (by omega)
      have hp := p2_pos i
      clear hs
      generalize num x i = q at *
      go_wp2_with (at_builtin; refine wpList_append_one (z := x / 2 ^ i % 2) _ rfl _ _ _ rfl elem8 own1 rfl rfl (by omega) (by omega) ?_; intro v3 w3 own3 hg3 hb3)
      go_roundw
      case rel => exact ⟨i + 1, by omega, by go_num, by rw [Hs.out]; exact own3, hb1.trans hb3⟩
      case measure => simp [intOf] <;> omega
    · obtain rfl : i = N := by omega
      have hnot := mt (HL.out i).2 hc
      by_cases h1 : (i : Int) < n
      · have d1 : decide ((i : Int) < n) = true := decide_eq_true h1
        have d2 : decide ((i : Int) < 32) = false := decide_eq_false (by omega)
        go_wp2_with fail
        go_ret
        exact ⟨_, rfl, own1, hb1⟩
      · have d1 : decide ((i : Int) < n) = false := decide_eq_false h1
        go_wp2_with fail
        go_ret
        exact ⟨_, rfl, own1, hb1⟩

set_option maxHeartbeats 1600000 in
theorem rcode_any (x n : Int) (w : World) (hx : 0 ≤ x ∧ x < 4294967296) (hn : -9223372036854775808 ≤ n ∧ n ≤ 9223372036854775807) :
    Calls Tryd.prog 67 #[.int .u32 x, .int .i64 n] w (GivesRow (num x (clampN n)).reverse w) := by
  have G := Lib.hid (number_any x n w hx hn)
  have hN := clamp_le n
  have hl := num_length (clampN n) x
  rw [show (num x (clampN n)).reverse = (num x (clampN n)).reverse.take (num x (clampN n)).length by rw [List.take_of_length_le (by simp)]]
  generalize num x (clampN n) = L at *
  have hL : L.length ≤ 32 := by omega
  clear hl hN
  go_enter Tryd.func67, Tryd.ntmps67
  go_wp2_with (go_at_call 23; refine G.out.mono ?_; rintro e w1 ⟨v1, rfl, own1, hb1⟩; obtain ⟨A, c, rfl, _, _, hr1⟩ := own1.opened)
  have own2 := Own.empty (B := w1.heap.size) w1 5 .u8 (Nat.le_refl _)
  have hb2 := (Below.refl w1.heap.size w1).alloc (Nat.le_refl _) (.cells #[] 5)
  go_loopw [6, 7] (fun v s wr => ∃ (k j : Nat) (z : Int), j + k = L.length ∧ s = .int .i64 z ∧ z = (j : Int) - 1 ∧ Own wr w1.heap.size 5 .u8 v (L.reverse.take k) ∧ Below w1.heap.size w1 wr) (fun _ s _ => (intOf s + 1).toNat)
  case atStart => exact ⟨0, L.length, _, by omega, rfl, rfl, own2, hb2⟩
  case round =>
    obtain ⟨k, j, z, hjk, rfl, hz, own3, hb3⟩ := hrel
    have hsz := hb3.size
    by_cases hj : j = 0
    · obtain rfl : z = -1 := by omega
      obtain rfl : k = L.length := by omega
      clear hz hj hjk
      go_wp2_with fail
      go_ret
      exact ⟨_, rfl, own3.mono hb1.size, hb1.trans (hb3.mono hb1.size)⟩
    · obtain ⟨i, rfl⟩ : ∃ i, j = i + 1 := ⟨j - 1, by omega⟩
      obtain rfl : z = (i : Int) := by omega
      clear hz
      obtain ⟨b, off, rfl, hbl, hcs⟩ := (hr1.below hb3) (by omega)
      have hc := hcs i (by omega)
      have hs : L.reverse.take (k + 1) = L.reverse.take k ++ [L.getD i 0] := by
        rw [List.take_add_one, List.getElem?_reverse (by omega), show L.length - 1 - k = i by omega]
        simp [List.getD, show i < L.length by omega]
      have hl3 : (L.reverse.take k).length ≤ 32 := by simp; omega
      have Hjk := Lib.hid hjk
      have hiL : i < L.length := by omega
      clear hjk
      have Hs := Lib.hid hs
      clear hs hcs
      generalize L.reverse.take k = q at *
      generalize L.getD i 0 = y at *
      go_wp2_with (at_builtin; refine wpList_append_one (z := y) _ rfl _ _ _ rfl elem8 own3 rfl rfl (by omega) (by omega) ?_; intro v4 w4 own4 hg4 hb4)
      go_roundw
      case rel => exact ⟨k + 1, i, _, by have := Hjk.out; omega, rfl, rfl, by rw [Hs.out]; exact own4, hb3.trans hb4⟩
      case measure => simp [intOf] <;> omega

set_option maxHeartbeats 1600000 in
theorem of_any (A : Option Addr) (b : List Int) (c : Nat) (w : World) (hl : b.length ≤ 100000) (ho : Octets b) (hr : Holds w w.heap.size .u8 A b) :
    Calls Tryd.prog 15 #[.slice A b.length c] w (GivesRow (bitsOf b) w) := by
  have own0 := Own.empty (B := w.heap.size) w 5 .u8 (Nat.le_refl _)
  have hb0 : Below w.heap.size w (w.alloc (.cells #[] 5)) := (Below.refl _ _).alloc (Nat.le_refl _) _
  go_enter Tryd.func15, Tryd.ntmps15
  go_wp2
  go_loopw [3, 8] (fun v s wr => ∃ i : Nat, i ≤ b.length ∧ s = .int .i64 i ∧ Own wr w.heap.size 5 .u8 v (bitsOf (b.take i)) ∧ Below w.heap.size w wr) (fun _ s _ => b.length - (intOf s).toNat)
  case atStart => exact ⟨0, Nat.zero_le _, rfl, own0, hb0⟩
  case round =>
    obtain ⟨i, hi, rfl, own1, hb1⟩ := hrel
    by_cases hlt : i < b.length
    · obtain ⟨bb, off, rfl, hbl, hc⟩ := hr.below hb1 (by omega)
      have hci := hc i hlt
      have hx := ho.at_ i
      have hsn : bitsOf (b.take (i + 1)) = bitsOf (b.take i) ++ num (b[i]?.getD 0) (clampN 8) := by
        rw [List.take_add_one, bitsOf_append, List.getElem?_eq_getElem hlt]
        simp [bitsOf, clampN]
      rw [show b.getD i 0 = b[i]?.getD 0 by simp [List.getD]] at hci
      have hlen := bitsOf_length (b.take i)
      rw [List.length_take] at hlen
      generalize b[i]?.getD 0 = x at *
      generalize bitsOf (b.take i) = q at *
      have G := Lib.hid (fun W => number_any x 8 W (by omega) (by omega))
      have hnl : (num x (clampN 8)).length ≤ 32 := by rw [num_length]; exact clamp_le 8
      have hq : q.length ≤ 800000 := by omega
      have Hsn := Lib.hid hsn
      clear hc hsn hlen
      generalize num x (clampN 8) = ys at *
      go_wp2_with (first
        | (go_at_call 23; refine (G.out _).mono ?_; rintro e w1 ⟨v1, rfl, own2, hb2⟩; obtain ⟨A2, c2, rfl, _, _, hr2⟩ := own2.opened; have own3 := own1.below hb2; have hs3 := hb1.size; have hs4 := hb2.size)
        | (at_builtin; refine wpList_append_ints (ys := ys) _ rfl _ _ _ rfl elem8 own3 rfl rfl hr2 (by omega) (by omega) ?_; intro v5 w5 own5 hg5 hb5 hv5))
      go_roundw
      case rel => exact ⟨i + 1, by omega, by go_num, by rw [Hsn.out]; exact own5, (hb1.trans (hb2.mono hb1.size)).trans hb5⟩
      case measure => simp [intOf] <;> omega
    · go_wp2_with fail
      obtain rfl : i = b.length := by omega
      go_ret
      exact ⟨_, rfl, by rwa [List.take_of_length_le (Nat.le_refl _)] at own1, hb1⟩

theorem whole_any (n : Int) (w : World) (hn : 0 ≤ n ∧ n ≤ 1000000000) : Calls Tryd.prog 18 #[.int .i64 n] w fun e w' => e = .returned (.int .i64 ((n + 7) / 8 * 8)) ∧ w = w' := by
  go_enter Tryd.func18, Tryd.ntmps18
  go_wp2
  go_ret
  exact ⟨rfl, rfl⟩

set_option maxHeartbeats 1600000 in
theorem value_any (A : Option Addr) (l : List Int) (c : Nat) (w : World) (hl : l.length ≤ 32) (hb : Bit l) (hr : Holds w w.heap.size .u8 A l) :
    Calls Tryd.prog 37 #[.slice A l.length c] w fun e w' => e = .returned (.int .u32 (val l)) ∧ w = w' := by
  go_enter Tryd.func37, Tryd.ntmps37
  go_wp2
  go_loop [3, 4] (fun x s => ∃ (j : Nat) (z : Int), j ≤ l.length ∧ s = .int .i64 z ∧ z = (j : Int) - 1 ∧ x = .int .u32 (val (l.drop j))) (fun _ s => (intOf s + 1).toNat)
  case atStart => exact ⟨l.length, _, Nat.le_refl _, rfl, rfl, by simp [val]⟩
  case round =>
    obtain ⟨j, z, hj, rfl, hz, rfl⟩ := hrel
    by_cases hj0 : j = 0
    · obtain rfl : z = -1 := by omega
      subst hj0
      clear hz
      go_wp2_with fail
      go_ret
      exact ⟨rfl, rfl⟩
    · obtain ⟨i, rfl⟩ : ∃ i, j = i + 1 := ⟨j - 1, by omega⟩
      obtain rfl : z = (i : Int) := by omega
      clear hz
      obtain ⟨bb, off, rfl, hbl, hcs⟩ := hr (by omega)
      have hc := hcs i (by omega)
      have hd := List.drop_eq_getElem_cons (show i < l.length by omega)
      have hb1 := hb l[i] (List.getElem_mem _)
      have hg : l.getD i 0 = l[i] := by simp [List.getD, show i < l.length by omega]
      rw [hg] at hc
      have hv1 := val_bd (hb.drop (i + 1))
      have hv2 : (2 : Int) ^ (l.drop (i + 1)).length ≤ 2 ^ 31 := p2_le (by simp; omega)
      rw [show (2 : Int) ^ 31 = 2147483648 by decide] at hv2
      have hs : val (l.drop i) = 2 * val (l.drop (i + 1)) + l[i] := by rw [hd, val]; omega
      have hv3 : 0 ≤ val (l.drop (i + 1)) ∧ val (l.drop (i + 1)) < 2147483648 := by omega
      have Hs := Lib.hid hs
      clear hs hd hg hcs hv1 hv2
      generalize val (l.drop (i + 1)) = y at *
      generalize l[i] = u at *
      go_wp2_with fail
      go_round
      case rel => exact ⟨i, _, by omega, rfl, rfl, by rw [Hs.out]⟩
      case measure => simp [intOf] <;> omega
end Go.Proofs.YthflefdchgpbdaaDoor.Bits
