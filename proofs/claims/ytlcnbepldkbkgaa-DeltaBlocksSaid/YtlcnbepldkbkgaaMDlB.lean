/-
  Layer 17, delta: a block's bytes: both functions: contracts. Conditions: as each theorem names.
-/
import Derived.Test.YtlcnbepldkbkgaaMDlA
import Derived.Test.YtlcnbepldkbkgaaMGDcks17
import Derived.Deep.AppendLies
namespace Go.Proofs.Ytlcnbepldkbkgaa.Dl
open Go.ChangeShapes Go.WideShapes Go.ChangeAt Go.RowKit Go.Proofs.Ytlcnbepldkbkgaa.Kit Go.Proofs.Ytlcnbepldkbkgaa.Mx Go.Proofs.Ytlcnbepldkbkgaa.Sx

def blockL (xs : List Int) (b i : Int) : List Int := if i < 0 ∨ blocksI xs.length b ≤ i then [] else (xs.drop (i * b).toNat).take b.toNat
/-- A block begins ahead of the end. -/
theorem begins_in {n b i : Int} (hi : 0 ≤ i) (h : i < blocksI n b) : 0 ≤ n ∧ 1 ≤ b ∧ 0 ≤ i * b ∧ i * b < n := by
  unfold blocksI at h
  by_cases hx : n < 0 ∨ b < 1
  · rw [if_pos hx] at h; omega
  · rw [if_neg hx] at h
    have hd := div_bd (n := n) (b := b) (by omega) (by omega)
    obtain ⟨k1, k2, k3, k4, k5, k6⟩ := hd
    have h0 : 0 ≤ i * b := Int.mul_nonneg hi (by omega)
    refine ⟨by omega, by omega, h0, ?_⟩
    by_cases hq : i < n / b
    · have h1 : i * b ≤ (n / b - 1) * b := Int.mul_le_mul_of_nonneg_right (by omega) (by omega)
      rw [Int.sub_mul, Int.one_mul, Int.mul_comm (n / b) b] at h1
      generalize b * (n / b) = p at *
      omega
    · have hr : 0 < n % b := by
        by_cases hr : 0 < n % b
        · exact hr
        · rw [if_neg hr] at h; omega
      rw [if_pos hr] at h
      have e : i = n / b := by omega
      rw [e, Int.mul_comm (n / b) b]
      generalize b * (n / b) = p at *
      omega

set_option maxRecDepth 100000 in
set_option maxHeartbeats 6400000 in
theorem block_any (A : Option Addr) (xs : List Int) (c : Nat) (b i : Int) (w : World) (hb : In64 b) (hi : In64 i) (hl : xs.length ≤ 140737488355328) (hc : xs.length ≤ c) (hr : Holds w w.heap.size .u8 A xs) :
    Calls Try.prog 9 #[.slice A xs.length c, .int .i64 b, .int .i64 i] w fun e w' => ∃ v, e = .returned v ∧ Own w' w.heap.size 5 .u8 v (blockL xs b i) ∧ Below w.heap.size w w' := by
  have hn64 : In64 (xs.length : Int) := by unfold In64; omega
  have GB := Lib.hid (fun W => blocks_any xs.length b hn64 hb W)
  have hbd := blocksI_bd (b := b) hn64
  unfold In64 at hb hi
  have HR := Lib.hid hr
  clear hr
  by_cases h0 : i < 0
  · have d0 : decide (i < 0) = true := decide_eq_true h0
    have e : blockL xs b i = [] := if_pos (.inl h0)
    rw [e]
    go_enter Try.func9, Try.ntmps9
    go_wp2
    go_ret
    exact ⟨_, rfl, Own.nil _ _ _ _, Below.refl _ _⟩
  have d0 : decide (i < 0) = false := decide_eq_false h0
  by_cases h1 : blocksI xs.length b ≤ i
  · have e : blockL xs b i = [] := if_pos (.inr h1)
    rw [e]
    clear e
    generalize blocksI xs.length b = N at *
    have d1 : decide (N ≤ i) = true := decide_eq_true h1
    go_enter Try.func9, Try.ntmps9
    go_wp2_with (go_at_call 7; (with_reducible refine (GB.out _).mono ?_); rintro e w1 ⟨rfl, rfl⟩)
    go_ret
    exact ⟨_, rfl, Own.nil _ _ _ _, Below.refl _ _⟩
  have hbe := begins_in (n := xs.length) (b := b) (i := i) (by omega) (by omega)
  have e : blockL xs b i = (xs.drop (i * b).toNat).take b.toNat := if_neg (by omega)
  rw [e]
  clear e
  generalize blocksI xs.length b = N at *
  have d1 : decide (N ≤ i) = false := decide_eq_false h1
  obtain ⟨_, hb1, hk0, hk1⟩ := hbe
  obtain ⟨K, hK⟩ : ∃ K : Nat, i * b = (K : Int) := ⟨(i * b).toNat, by omega⟩
  obtain ⟨B, rfl⟩ : ∃ B : Nat, b = (B : Int) := ⟨b.toNat, by omega⟩
  rw [hK] at hk0 hk1 ⊢
  rw [Int.toNat_natCast, Int.toNat_natCast]
  have hw1 : IntKind.i64.wrap (i * (B : Int)) = (K : Int) := by rw [hK]; exact IntWalk.i64_in _ (by omega)
  have hKl : K < xs.length := by omega
  obtain ⟨g, off, rfl, _, _⟩ := HR.out (by omega)
  obtain ⟨M, hM⟩ : ∃ M : Nat, (if ((xs.length - K : Nat) : Int) < (B : Int) then ((xs.length - K : Nat) : Int) else (B : Int)) = (M : Int) := ⟨(if ((xs.length - K : Nat) : Int) < (B : Int) then ((xs.length - K : Nat) : Int) else (B : Int)).toNat, by split <;> omega⟩
  have hM3 : (if xs.length - K < B then ((xs.length - K : Nat) : Int) else (B : Int)) = (M : Int) := by rw [← hM]; split <;> split <;> omega
  have hM1 : M ≤ xs.length - K ∧ M ≤ B ∧ (M = B ∨ M = xs.length - K) := by split at hM <;> omega
  have htk : (xs.drop K).take B = (xs.drop K).take M := by
    rcases hM1.2.2 with h | h
    · rw [h]
    · rw [List.take_of_length_le (by rw [List.length_drop]; omega), List.take_of_length_le (by rw [List.length_drop]; omega)]
  rw [htk]
  have hlen : ((xs.drop K).take M).length = M := by rw [List.length_take, List.length_drop]; omega
  have hcK : ¬ c = K := by omega
  have HC := Lib.hid (holds_cut HR.out K M)
  have HLEN := Lib.hid hlen
  have m1 := hM1.1
  have m2 : K + M ≤ c := by omega
  have m3 : 0 < M := by omega
  have HNIL := Lib.hid (World.ownsRow_nil w w.heap.size 5 1)
  have hnew : ∀ j u, (((xs.drop K).take M).map (Value.int .u8))[j]? = some u → w.cell? (Addr.add ⟨g, off + K, none⟩ j) = some u := by
    intro j u hu
    obtain ⟨hj, rfl⟩ := get_ints hu
    obtain ⟨b', off', h', _, hc'⟩ := HC.out (by omega)
    injection h' with h'
    injection h' with e1 e2
    subst e1 e2
    rw [add_plain]
    exact (hc' j hj).trans (by simp [List.getD])
  have HNEW := Lib.hid hnew
  obtain ⟨ht8, hinfo8, _⟩ := elem8
  obtain ⟨i8, hi8, hz8, hs8, hby8⟩ := info_parts hinfo8
  clear hnew hlen htk hM1 hk0 hk1 hK
  go_enter Try.func9, Try.ntmps9
  go_wp2_with (first
    | (go_at_call 7; (with_reducible refine (GB.out _).mono ?_); rintro e w1 ⟨rfl, rfl⟩)
    | (at_builtin; go_loud (refine wpList_append_lies _ rfl _ _ _ rfl w.heap.size 5 i8 _ 1 1 ht8 hi8 hz8 hs8 hby8 rfl (by omega) (.slice none 0 0) 0 [] rfl HNIL.out ⟨g, off + K, none⟩ M (c - K) (((xs.drop K).take M).map (Value.int .u8)) rfl (by rw [List.length_map, HLEN.out, Nat.mul_one]) HNEW.out (ints_one .u8 _) m3 (by unfold maxLen; omega) (by omega) (Nat.le_refl _) w.heap.size rfl ?_; intro g5 cap5 w5 own5 hg5 _ _)))
  go_ret
  refine ⟨_, rfl, ?_, (Below.refl _ w).grown hg5 (Nat.le_refl _) (fun k hk => by simp [Value.ownBlock] at hk)⟩
  unfold Own
  rw [HLEN.out]
  simpa using own5
set_option maxRecDepth 100000 in
set_option maxHeartbeats 6400000 in
theorem rblock_any (A : Option Addr) (xs : List Int) (c : Nat) (b i : Int) (w : World) (hb : In64 b) (hi : In64 i) (hl : xs.length ≤ 1000000) (hc : xs.length ≤ c) (hr : Holds w w.heap.size .u8 A xs) :
    Calls Try.prog 10 #[.slice A xs.length c, .int .i64 b, .int .i64 i] w fun e w' => ∃ (A' : Option Addr) (c' : Nat), e = .returned (.slice A' (blockL xs b i).length c') ∧ Holds w' w'.heap.size .u8 A' (blockL xs b i) ∧ Below w.heap.size w w' := by
  have hn64 : In64 (xs.length : Int) := by unfold In64; omega
  have GB := Lib.hid (fun W => rblocks_any xs.length b hn64 hb W)
  have hbd := blocksI_bd (b := b) hn64
  unfold In64 at hb hi
  have HR := Lib.hid hr
  have HAL := Lib.hid (fun o => (Below.refl w.heap.size w).alloc (Nat.le_refl _) o)
  clear hr
  by_cases h0 : i < 0
  · have d0 : decide (i < 0) = true := decide_eq_true h0
    have e : blockL xs b i = [] := if_pos (.inl h0)
    rw [e]
    go_enter Try.func10, Try.ntmps10
    go_wp2
    go_ret
    exact ⟨_, _, rfl, Holds.nil, HAL.out _⟩
  have d0 : decide (i < 0) = false := decide_eq_false h0
  by_cases h1 : blocksI xs.length b ≤ i
  · have e : blockL xs b i = [] := if_pos (.inr h1)
    rw [e]
    clear e
    generalize blocksI xs.length b = N at *
    have d1 : decide (N ≤ i) = true := decide_eq_true h1
    go_enter Try.func10, Try.ntmps10
    go_wp2_with (go_at_call 8; (with_reducible refine (GB.out _).mono ?_); rintro e w1 ⟨rfl, rfl⟩)
    go_ret
    exact ⟨_, _, rfl, Holds.nil, HAL.out _⟩
  have hbe := begins_in (n := xs.length) (b := b) (i := i) (by omega) (by omega)
  have e : blockL xs b i = (xs.drop (i * b).toNat).take b.toNat := if_neg (by omega)
  rw [e]
  clear e
  generalize blocksI xs.length b = N at *
  have d1 : decide (N ≤ i) = false := decide_eq_false h1
  obtain ⟨_, hb1, hk0, hk1⟩ := hbe
  obtain ⟨K, hK⟩ : ∃ K : Nat, i * b = (K : Int) := ⟨(i * b).toNat, by omega⟩
  obtain ⟨B, rfl⟩ : ∃ B : Nat, b = (B : Int) := ⟨b.toNat, by omega⟩
  rw [hK] at hk0 hk1 ⊢
  rw [Int.toNat_natCast, Int.toNat_natCast]
  have hw1 : IntKind.i64.wrap (i * (B : Int)) = (K : Int) := by rw [hK]; exact IntWalk.i64_in _ (by omega)
  have hKl : K < xs.length := by omega
  obtain ⟨g, off, rfl, _, _⟩ := HR.out (by omega)
  have hcK : ¬ c = K := by omega
  by_cases h5 : (B : Int) < (xs.length : Int) - (K : Int)
  · have d5 : decide ((B : Int) < (xs.length : Int) - (K : Int)) = true := decide_eq_true h5
    have hlen : ((xs.drop K).take B).length = B := by rw [List.length_take, List.length_drop]; omega
    have hw2 : IntKind.i64.wrap (i + 1) = i + 1 := IntWalk.i64_in _ (by omega)
    have hw3 : IntKind.i64.wrap ((i + 1) * (B : Int)) = ((K + B : Nat) : Int) := by rw [Int.add_mul, Int.one_mul, hK, IntWalk.i64_in _ (by omega)]; omega
    have hs : K + B - K = B := by omega
    have m2 : K + B ≤ c := by omega
    have HC := Lib.hid (holds_cut HR.out K B)
    rw [hlen]
    clear hlen hk0 hk1 hK
    go_enter Try.func10, Try.ntmps10
    go_wp2_with (go_at_call 8; (with_reducible refine (GB.out _).mono ?_); rintro e w1 ⟨rfl, rfl⟩)
    go_ret
    refine ⟨some ⟨g, off + K, none⟩, c - K, ?_, HC.out, Below.refl _ _⟩
    simp [hs]
  · have d5 : decide ((B : Int) < (xs.length : Int) - (K : Int)) = false := decide_eq_false h5
    have htk : (xs.drop K).take B = xs.drop K := List.take_of_length_le (by rw [List.length_drop]; omega)
    rw [htk, List.length_drop]
    have HC := Lib.hid (holds_tail HR.out K)
    clear htk hk0 hk1 hK
    go_enter Try.func10, Try.ntmps10
    go_wp2_with (go_at_call 8; (with_reducible refine (GB.out _).mono ?_); rintro e w1 ⟨rfl, rfl⟩)
    go_ret
    exact ⟨some ⟨g, off + K, none⟩, c - K, rfl, HC.out, Below.refl _ _⟩
end Go.Proofs.Ytlcnbepldkbkgaa.Dl
