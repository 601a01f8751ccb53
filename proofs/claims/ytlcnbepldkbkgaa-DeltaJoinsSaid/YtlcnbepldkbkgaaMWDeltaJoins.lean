/-
  DeltaJoins: the walk: an image's blocks, one behind the other, are the image.
-/
import Derived.Test.YtlcnbepldkbkgaaMGDins18
import Derived.Test.YtlcnbepldkbkgaaMGDins3
namespace Go.Proofs.Ytlcnbepldkbkgaa.DeltaJoins
open Go.ChangeShapes Go.WideShapes Go.ChangeAt Go.RowKit Go.Proofs.Ytlcnbepldkbkgaa.Kit Go.Proofs.Ytlcnbepldkbkgaa.Dl Go.Proofs.Ytlcnbepldkbkgaa.Mx Go.Proofs.Ytlcnbepldkbkgaa.Sx

set_option maxRecDepth 100000 in
set_option maxHeartbeats 6400000 in
theorem walk_big (A : Option Addr) (xs : List Int) (c : Nat) (b : Int) (w : World) (hl : xs.length ≤ c) (hm : c ≤ maxLen) (hz : xs.length ≤ 140737488351232) (hr : Holds w w.heap.size .u8 A xs) (hb : In64 b) (hbig : 5000 < xs.length ∨ b < 1) :
    Calls Try.prog 5 #[.slice A xs.length c, .int .i64 b] w fun e w' => e = .returned (.bool true) ∧ Below w.heap.size w w' := by
  have GA := Lib.hid (fun W => Dl.awake_any W)
  have GK := Lib.hid (block_any A xs c b 0 w hb (by unfold In64; omega) (by omega) hl hr)
  have hz0 := blockL_zero (xs := xs) (b := b)
  unfold In64 at hb
  obtain ⟨X, hX⟩ : ∃ X, blockL xs b 0 = X := ⟨_, rfl⟩
  rw [hX] at GK hz0
  clear hX hr
  by_cases h0 : 5000 < xs.length
  · have d0 : decide ((5000 : Int) < (xs.length : Int)) = true := decide_eq_true (by omega)
    have d1 : decide (5000 < xs.length) = true := decide_eq_true h0
    have q0 : ((xs.length : Int) == 0) = false := by rw [beq_eq_false_iff_ne]; omega
    have q1 : ¬ xs.length = 0 := by omega
    by_cases h1 : b < 1
    · have d2 : decide (b < 1) = true := decide_eq_true h1
      have h2 : X.length = 0 := hz0.2 (.inl h1)
      obtain rfl : X = [] := List.eq_nil_of_length_eq_zero h2
      clear hz0 h2
      go_enter Try.func5, Try.ntmps5
      go_wp2_with (first
        | (go_at_call 9; refine GK.out.mono ?_; rintro e w1 ⟨v, rfl, own, hb1⟩; obtain ⟨A1, c1', rfl, _, _, _⟩ := own.opened; have HB := Lib.hid hb1; clear own hb1)
        | (go_at_call 6; (with_reducible refine (GA.out _).mono ?_); rintro e w2 ⟨rfl, hb2⟩))
      go_ret
      exact ⟨rfl, HB.out.trans (hb2.mono HB.out.size)⟩
    · have d2 : decide (b < 1) = false := decide_eq_false h1
      have h2 : ¬ X.length = 0 := fun h => by rcases hz0.1 h with h | h <;> omega
      have q2 : ((X.length : Int) == 0) = false := by rw [beq_eq_false_iff_ne]; omega
      clear hz0
      go_enter Try.func5, Try.ntmps5
      go_wp2_with (first
        | (go_at_call 9; refine GK.out.mono ?_; rintro e w1 ⟨v, rfl, own, hb1⟩; obtain ⟨A1, c1', rfl, _, _, _⟩ := own.opened; have HB := Lib.hid hb1; clear own hb1)
        | (go_at_call 6; (with_reducible refine (GA.out _).mono ?_); rintro e w2 ⟨rfl, hb2⟩))
      go_ret
      exact ⟨rfl, HB.out.trans (hb2.mono HB.out.size)⟩
  · have d0 : decide ((5000 : Int) < (xs.length : Int)) = false := decide_eq_false (by omega)
    have d1 : decide (5000 < xs.length) = false := decide_eq_false h0
    have h1 : b < 1 := by omega
    have d2 : decide (b < 1) = true := decide_eq_true h1
    have h2 : X.length = 0 := hz0.2 (.inl h1)
    obtain rfl : X = [] := List.eq_nil_of_length_eq_zero h2
    clear hz0 h2
    go_enter Try.func5, Try.ntmps5
    go_wp2_with (first
      | (go_at_call 9; refine GK.out.mono ?_; rintro e w1 ⟨v, rfl, own, hb1⟩; obtain ⟨A1, c1', rfl, _, _, _⟩ := own.opened; have HB := Lib.hid hb1; clear own hb1)
      | (go_at_call 6; (with_reducible refine (GA.out _).mono ?_); rintro e w2 ⟨rfl, hb2⟩))
    go_ret
    exact ⟨rfl, HB.out.trans (hb2.mono HB.out.size)⟩

set_option maxRecDepth 100000 in
set_option maxHeartbeats 6400000 in
theorem walk_low (A : Option Addr) (xs : List Int) (c B : Nat) (w : World) (hl : xs.length ≤ c) (hr : Holds w w.heap.size .u8 A xs) (hb : In64 (B : Int)) (h0 : xs.length ≤ 5000) (h1 : 1 ≤ B) :
    Calls Try.prog 5 #[.slice A xs.length c, .int .i64 B] w fun e w' => e = .returned (.bool true) ∧ Below w.heap.size w w' := by
  have GA := Lib.hid (fun W => Dl.awake_any W)
  have hn64 : In64 (xs.length : Int) := by unfold In64; omega
  have GB := blocks_any xs.length B hn64 hb
  have hbd := blocksI_bd (b := (B : Int)) hn64
  obtain ⟨N, hN⟩ : ∃ N : Nat, (N : Int) = blocksI xs.length B := ⟨(blocksI xs.length B).toNat, by omega⟩
  have GK := Lib.hid (fun (j : Nat) (hj : In64 (j : Int)) W (hW : Below w.heap.size w W) => block_any A xs c B j W hb hj (by omega) hl ((hr.below hW).more hW.size))
  have HT := Lib.hid (take_all h1 hN)
  have HX := Lib.hid (fun (j : Nat) (hj : (j : Int) < blocksI xs.length B) => blockL_next (xs := xs) (B := B) (j := j) h1 hj)
  rw [← hN] at GB hbd HX
  have HGB := Lib.hid GB
  have HR := Lib.hid hr
  unfold In64 at hb
  have d0 : decide ((5000 : Int) < (xs.length : Int)) = false := decide_eq_false (by omega)
  have d2 : decide ((B : Int) < 1) = false := decide_eq_false (by omega)
  have hNl : N ≤ xs.length := by omega
  have d3' : decide (xs.length < N) = false := decide_eq_false (by omega)
  have d3 : decide ((xs.length : Int) < (N : Int)) = false := decide_eq_false (by omega)
  have own0 := Own.empty (B := w.heap.size) w 5 .u8 (Nat.le_refl _)
  have hb0 : Below w.heap.size w (w.alloc (.cells #[] 5)) := (Below.refl _ _).alloc (Nat.le_refl _) _
  have HO0 := Lib.hid own0
  have HB0 := Lib.hid hb0
  clear GB hN hbd hr own0 hb0 hn64
  go_enter Try.func5, Try.ntmps5
  go_wp2_with (go_at_call 7; (with_reducible refine (HGB.out _).mono ?_); rintro e w1 ⟨rfl, rfl⟩)
  go_loopw [5, 7] (fun sl si wr => ∃ j : Nat, j ≤ N ∧ si = .int .i64 j ∧ Own wr w.heap.size 5 .u8 sl (xs.take (j * B)) ∧ Below w.heap.size w wr) (fun _ si _ => N - (intOf si).toNat)
  case atStart => exact ⟨0, Nat.zero_le _, rfl, by simpa using HO0.out, HB0.out⟩
  case round =>
    obtain ⟨j, hj, rfl, own, hB⟩ := hrel
    by_cases hlt : j < N
    · have d4 : decide ((j : Int) < (N : Int)) = true := decide_eq_true (by omega)
      have d5 : decide (j < N) = true := decide_eq_true hlt
      obtain ⟨e1, e2, e3, e4⟩ := HX.out j (by omega)
      have GK1 := GK.out j (by unfold In64; omega) _ hB
      generalize blockL xs B j = Y at *
      rw [show List.take ((j + 1) * B) xs = xs.take ((j + 1) * B) from rfl] at e1
      have HK := Lib.hid GK1
      have HE := Lib.hid e1
      have f1 : decide ((Y.length : Int) < 1) = false := decide_eq_false (by omega)
      have f2 : decide ((B : Int) < (Y.length : Int)) = false := decide_eq_false (by omega)
      have f3 : decide (Y.length < 1) = false := decide_eq_false (by omega)
      have f4 : decide (B < Y.length) = false := decide_eq_false (by omega)
      have hw1 : IntKind.i64.wrap ((N : Int) - 1) = (N : Int) - 1 := IntWalk.i64_in _ (by omega)
      have hy : Y.length ≤ 5000 := by have := congrArg List.length e1; rw [List.length_append] at this; have := List.length_take_le' ((j + 1) * B) xs; omega
      have htl := List.length_take_le' (j * B) xs
      generalize xs.take (j * B) = T at *
      have htl2 : T.length ≤ 5000 := by omega
      clear GK1 e1
      by_cases h5 : (j : Int) < (N : Int) - 1
      · have g1 : decide ((j : Int) < (N : Int) - 1) = true := decide_eq_true h5
        have e5 := e4 h5
        have g2 : ((Y.length : Int) == (B : Int)) = true := by rw [e5]; simp
        have g3 : ((Y.length : Int) != (B : Int)) = false := by rw [e5]; simp
        have g4 : (Y.length == B) = true := by rw [e5]; simp
        clear e4 e5
        go_wp2_with (first
          | (go_at_call 9; refine HK.out.mono ?_; rintro e w3 ⟨v3, rfl, own3, hb3⟩; obtain ⟨A3, c3, rfl, _, _, hh3⟩ := own3.opened; have own2 := own.below hb3; have HB3 := Lib.hid (hB.trans (hb3.mono hB.size)); have HH3 := Lib.hid hh3; clear own3 hb3 hh3)
          | (have _t := own2; at_builtin; go_loud (refine wpList_append_ints (ys := Y) _ rfl _ _ _ rfl elem8 own2 rfl rfl HH3.out (by omega) HB3.out.size ?_; clear _t; intro v5 w5 own5 hg5 hb5 hv5; rw [HE.out] at own5)))
        go_roundw
        case rel => exact ⟨j + 1, hlt, by go_num, own5, HB3.out.trans hb5⟩
        case measure => simp [intOf] <;> omega
      · have g1 : decide ((j : Int) < (N : Int) - 1) = false := decide_eq_false h5
        clear e4
        go_wp2_with (first
          | (go_at_call 9; refine HK.out.mono ?_; rintro e w3 ⟨v3, rfl, own3, hb3⟩; obtain ⟨A3, c3, rfl, _, _, hh3⟩ := own3.opened; have own2 := own.below hb3; have HB3 := Lib.hid (hB.trans (hb3.mono hB.size)); have HH3 := Lib.hid hh3; clear own3 hb3 hh3)
          | (have _t := own2; at_builtin; go_loud (refine wpList_append_ints (ys := Y) _ rfl _ _ _ rfl elem8 own2 rfl rfl HH3.out (by omega) HB3.out.size ?_; clear _t; intro v5 w5 own5 hg5 hb5 hv5; rw [HE.out] at own5)))
        go_roundw
        case rel => exact ⟨j + 1, hlt, by go_num, own5, HB3.out.trans hb5⟩
        case measure => simp [intOf] <;> omega
    · obtain rfl : j = N := by omega
      have d4 : decide ((j : Int) < (j : Int)) = false := decide_eq_false (by omega)
      have d5 : decide (j < j) = false := decide_eq_false (by omega)
      rw [HT.out] at own
      obtain ⟨A5, c5, rfl, k5, _, hh5⟩ := own.opened
      have s1 := conv_bytes Try.underlying22 Try.underlying5 Try.underlying9 wr A5 xs c5 _ hh5
      have s2 := conv_bytes Try.underlying22 Try.underlying5 Try.underlying9 wr A xs c _ (HR.out.below hB)
      generalize strOfNums xs = s at *
      clear own hh5
      go_wp2_with (go_at_call 6; (with_reducible refine (GA.out _).mono ?_); rintro e w2 ⟨rfl, hb2⟩)
      go_ret
      exact ⟨rfl, hB.trans (hb2.mono hB.size)⟩

theorem walk (A : Option Addr) (xs : List Int) (c : Nat) (b : Int) (w : World) (hl : xs.length ≤ c) (hm : c ≤ maxLen) (_ : Octets xs) (hr : Holds w w.heap.size .u8 A xs) (hz : xs.length ≤ 140737488351232) (wb : (Lit.int .i64 b).wf = true) :
    Calls Try.prog 5 #[.slice A xs.length c, .int .i64 b] w fun e w' => e = .returned (.bool true) ∧ Below w.heap.size w w' := by
  have hb : In64 b := bounds_i64 wb
  by_cases h : 5000 < xs.length ∨ b < 1
  · exact walk_big A xs c b w hl hm hz hr hb h
  · obtain ⟨B, rfl⟩ : ∃ B : Nat, b = (B : Int) := ⟨b.toNat, by omega⟩
    exact walk_low A xs c B w hl hr hb (by omega) (by omega)
end Go.Proofs.Ytlcnbepldkbkgaa.DeltaJoins
