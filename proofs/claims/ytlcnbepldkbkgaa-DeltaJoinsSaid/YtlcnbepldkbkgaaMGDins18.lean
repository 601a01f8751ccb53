/-
  Layer 17, delta: how many blocks, and how long a plan's writing may be: both functions: contracts. Conditions: as each theorem names.
  Layer 15: whether a row stands in an image, the document's: a contract. Conditions: as each theorem names.
  Layer 17, delta: a block's bytes: both functions: contracts. Conditions: as each theorem names.
  Layer 17, delta.Literal: a contract. Conditions: as each theorem names.
  Layer 17, delta: the first literal; a plan where nothing is found: contracts. Conditions: as each theorem names.
  Layer 17, delta.planOf where nothing is found: a contract. Conditions: as each theorem names.
  Layer 17, delta.Plans at one input; the document's example: contracts. Conditions: as each theorem names.
  Layer 17, blocks one behind the other: plain. Conditions: as each theorem names.
-/
import Derived.Test.YtlcnbepldkbkgaaMMxD
import Derived.Deep.QuietTactic
import Derived.BigQuiet
import Derived.Lib.QuietBelow
import Derived.Deep.AppendLies
import Derived.Test.YtlcnbepldkbkgaaMGDins20
namespace Go.Proofs.Ytlcnbepldkbkgaa.Dl
open Go.ChangeShapes Go.WideShapes Go.ChangeAt Go.RowKit Go.Proofs.Ytlcnbepldkbkgaa.Kit

def In64 (x : Int) : Prop := -9223372036854775808 ≤ x ∧ x ≤ 9223372036854775807
def blocksI (n b : Int) : Int := if n < 0 ∨ b < 1 then 0 else n / b + if 0 < n % b then 1 else 0
theorem div_bd {n b : Int} (hn : 0 ≤ n) (hb : 1 ≤ b) : 0 ≤ n / b ∧ n / b ≤ n ∧ 0 ≤ n % b ∧ n % b < b ∧ (0 < n % b → n / b + 1 ≤ n) ∧ n = b * (n / b) + n % b := by
  have h1 := Int.emod_nonneg n (show b ≠ 0 by omega)
  have h2 := Int.emod_lt_of_pos n (show 0 < b by omega)
  have h3 := Int.mul_ediv_add_emod n b
  have h4 : 0 ≤ n / b := Int.ediv_nonneg hn (by omega)
  have h5 : n / b ≤ b * (n / b) := by
    have := Int.mul_le_mul_of_nonneg_right hb h4
    omega
  exact ⟨h4, by omega, h1, h2, fun h => by omega, h3.symm⟩
theorem blocksI_bd {n b : Int} (hn : In64 n) : 0 ≤ blocksI n b ∧ (blocksI n b ≤ n ∨ blocksI n b = 0) := by
  unfold blocksI
  by_cases h : n < 0 ∨ b < 1
  · rw [if_pos h]; omega
  · rw [if_neg h]
    have h2 := div_bd (n := n) (b := b) (by omega) (by omega)
    generalize n / b = q at *
    generalize n % b = r at *
    split <;> omega

set_option maxRecDepth 100000 in
theorem blocks_any (n b : Int) (hn : In64 n) (hb : In64 b) (w : World) : Calls Try.prog 7 #[.int .i64 n, .int .i64 b] w fun e w' => e = .returned (.int .i64 (blocksI n b)) ∧ w = w' := by
  unfold In64 at hn hb
  by_cases h0 : n < 0
  · have d0 : decide (n < 0) = true := decide_eq_true h0
    have e : blocksI n b = 0 := if_pos (.inl h0)
    rw [e]
    go_enter Try.func7, Try.ntmps7
    go_wp2
    go_ret
    exact ⟨rfl, rfl⟩
  have d0 : decide (n < 0) = false := decide_eq_false h0
  by_cases h1 : b < 1
  · have d1 : decide (b < 1) = true := decide_eq_true h1
    have e : blocksI n b = 0 := if_pos (.inr h1)
    rw [e]
    go_enter Try.func7, Try.ntmps7
    go_wp2
    go_ret
    exact ⟨rfl, rfl⟩
  have d1 : decide (b < 1) = false := decide_eq_false h1
  have e : blocksI n b = n / b + if 0 < n % b then 1 else 0 := if_neg (by omega)
  have hd := div_bd (n := n) (b := b) (by omega) (by omega)
  have hq : Int.tdiv n b = n / b := Int.tdiv_eq_ediv_of_nonneg (by omega)
  have hr : Int.tmod n b = n % b := Int.tmod_eq_emod_of_nonneg (by omega)
  have hz : (b == 0) = false := by rw [beq_eq_false_iff_ne]; omega
  have hz2 : ¬ b = 0 := by omega
  rw [e]
  clear e
  obtain ⟨k1, k2, k3, k4, k5, k6⟩ := hd
  clear k6
  generalize n / b = q at *
  generalize n % b = r at *
  have w1 : IntKind.i64.wrap q = q := IntWalk.i64_in _ (by omega)
  have w2 : IntKind.i64.wrap r = r := IntWalk.i64_in _ (by omega)
  by_cases h2 : 0 < r
  · have d2 : decide (0 < r) = true := decide_eq_true h2
    have w3 : IntKind.i64.wrap (q + 1) = q + 1 := IntWalk.i64_in _ (by have := k5 h2; omega)
    rw [if_pos h2]
    clear k5
    go_enter Try.func7, Try.ntmps7
    go_wp2
    go_ret
    exact ⟨rfl, rfl⟩
  · have d2 : decide (0 < r) = false := decide_eq_false h2
    rw [if_neg h2, Int.add_zero]
    clear k5
    go_enter Try.func7, Try.ntmps7
    go_wp2
    go_ret
    exact ⟨rfl, rfl⟩

set_option maxRecDepth 100000 in
theorem rblocks_any (n b : Int) (hn : In64 n) (hb : In64 b) (w : World) : Calls Try.prog 8 #[.int .i64 n, .int .i64 b] w fun e w' => e = .returned (.int .i64 (blocksI n b)) ∧ w = w' := by
  unfold In64 at hn hb
  by_cases h0 : n < 1
  · have d0 : decide (n < 1) = true := decide_eq_true h0
    have e : blocksI n b = 0 := by
      by_cases hx : n < 0 ∨ b < 1
      · exact if_pos hx
      · obtain rfl : n = 0 := by omega
        simp [blocksI]
    rw [e]
    go_enter Try.func8, Try.ntmps8
    go_wp2
    go_ret
    exact ⟨rfl, rfl⟩
  have d0 : decide (n < 1) = false := decide_eq_false h0
  by_cases h1 : b < 1
  · have d1 : decide (b < 1) = true := decide_eq_true h1
    have e : blocksI n b = 0 := if_pos (.inr h1)
    rw [e]
    go_enter Try.func8, Try.ntmps8
    go_wp2
    go_ret
    exact ⟨rfl, rfl⟩
  have d1 : decide (b < 1) = false := decide_eq_false h1
  have e : blocksI n b = n / b + if 0 < n % b then 1 else 0 := if_neg (by omega)
  have hd := div_bd (n := n) (b := b) (by omega) (by omega)
  have hq : Int.tdiv n b = n / b := Int.tdiv_eq_ediv_of_nonneg (by omega)
  have hr : Int.tmod n b = n % b := Int.tmod_eq_emod_of_nonneg (by omega)
  have hz : (b == 0) = false := by rw [beq_eq_false_iff_ne]; omega
  have hz2 : ¬ b = 0 := by omega
  rw [e]
  clear e
  obtain ⟨k1, k2, k3, k4, k5, k6⟩ := hd
  clear k6
  generalize n / b = q at *
  generalize n % b = r at *
  have w1 : IntKind.i64.wrap q = q := IntWalk.i64_in _ (by omega)
  have w2 : IntKind.i64.wrap r = r := IntWalk.i64_in _ (by omega)
  by_cases h2 : 0 < r
  · have d2 : decide (0 < r) = true := decide_eq_true h2
    have w3 : IntKind.i64.wrap (q + 1) = q + 1 := IntWalk.i64_in _ (by have := k5 h2; omega)
    rw [if_pos h2]
    clear k5
    go_enter Try.func8, Try.ntmps8
    go_wp2
    go_ret
    exact ⟨rfl, rfl⟩
  · have d2 : decide (0 < r) = false := decide_eq_false h2
    rw [if_neg h2, Int.add_zero]
    clear k5
    go_enter Try.func8, Try.ntmps8
    go_wp2
    go_ret
    exact ⟨rfl, rfl⟩

def isBlkB (b : Int) : Bool := decide (128 ≤ b) && decide (b ≤ 4096)
theorem isBlock_any (b : Int) (w : World) : Calls Try.prog 17 #[.int .i64 b] w fun e w' => e = .returned (.bool (isBlkB b)) ∧ w = w' := by
  by_cases h0 : 128 ≤ b
  · have d0 : decide (128 ≤ b) = true := decide_eq_true h0
    by_cases h1 : b ≤ 4096
    · have d1 : decide (b ≤ 4096) = true := decide_eq_true h1
      have e : isBlkB b = true := by unfold isBlkB; rw [d0, d1]; rfl
      rw [e]
      go_enter Try.func17, Try.ntmps17
      go_wp2
      go_ret
      exact ⟨rfl, rfl⟩
    · have d1 : decide (b ≤ 4096) = false := decide_eq_false h1
      have e : isBlkB b = false := by unfold isBlkB; rw [d0, d1]; rfl
      rw [e]
      go_enter Try.func17, Try.ntmps17
      go_wp2
      go_ret
      exact ⟨rfl, rfl⟩
  · have d0 : decide (128 ≤ b) = false := decide_eq_false h0
    have e : isBlkB b = false := by unfold isBlkB; rw [d0]; rfl
    rw [e]
    go_enter Try.func17, Try.ntmps17
    go_wp2
    go_ret
    exact ⟨rfl, rfl⟩
def mostI (b : Int) : Int := if isBlkB b = true then b + 12 else 0
theorem most_any (b : Int) (w : World) : Calls Try.prog 13 #[.int .i64 b] w fun e w' => e = .returned (.int .i64 (mostI b)) ∧ w = w' := by
  have GB := Lib.hid (fun W => isBlock_any b W)
  obtain ⟨t, ht⟩ : ∃ t, isBlkB b = t := ⟨_, rfl⟩
  cases t with
  | true =>
    have e : mostI b = b + 12 := if_pos ht
    have hb : 128 ≤ b ∧ b ≤ 4096 := by simpa [isBlkB] using ht
    rw [e]
    rw [ht] at GB
    clear ht e
    go_enter Try.func13, Try.ntmps13
    go_wp2_with (go_at_call 17; (with_reducible refine (GB.out _).mono ?_); rintro e w1 ⟨rfl, rfl⟩)
    go_ret
    exact ⟨rfl, rfl⟩
  | false =>
    have e : mostI b = 0 := if_neg (by rw [ht]; decide)
    rw [e]
    rw [ht] at GB
    clear ht e
    go_enter Try.func13, Try.ntmps13
    go_wp2_with (go_at_call 17; (with_reducible refine (GB.out _).mono ?_); rintro e w1 ⟨rfl, rfl⟩)
    go_ret
    exact ⟨rfl, rfl⟩
end Go.Proofs.Ytlcnbepldkbkgaa.Dl

namespace Go.Proofs.Ytlcnbepldkbkgaa.Mx
open Go.ChangeShapes Go.WideShapes Go.ChangeAt Go.RowKit Go.Proofs.Ytlcnbepldkbkgaa.Kit Go.Proofs.Ytlcnbepldkbkgaa.Sx Go.Proofs.Ytlcnbepldkbkgaa.Mt

theorem holds_cut {w : World} {B : Nat} {k : IntKind} {b off : Nat} {xs : List Int} (h : Holds w B k (some ⟨b, off, none⟩) xs) (p m : Nat) : Holds w B k (some ⟨b, off + p, none⟩) ((xs.drop p).take m) := by
  intro hx
  rw [List.length_take, List.length_drop] at hx
  obtain ⟨b2, o2, hA, hb, hc⟩ := h (by omega)
  injection hA with hA
  injection hA with e1 e2
  subst e1 e2
  refine ⟨b, off + p, rfl, hb, fun j hj => ?_⟩
  rw [List.length_take, List.length_drop] at hj
  rw [Nat.add_assoc, hc (p + j) (by omega)]
  simp [List.getD, List.getElem?_drop, List.getElem?_take, show j < m by omega]

def StandsR (xs zs : List Int) (e : Ending) : Prop := ∃ s : Bool, e = .returned (.bool s) ∧ (s = true → ∃ k, k + zs.length ≤ xs.length ∧ (xs.drop k).take zs.length = zs)

theorem cut_get {xs ys : List Int} {k a m : Nat} (h : (xs.drop k).take m = (ys.drop a).take m) {j : Nat} (hj : j < m) : xs.getD (k + j) 0 = ys.getD (a + j) 0 := by
  have h1 := congrArg (fun l => l[j]?.getD 0) h
  simpa [List.getD, List.getElem?_take, List.getElem?_drop, hj] using h1
theorem met_at {xs ys : List Int} {ps : List Pc} {e a k : Nat} (h : FoundL xs ys ps e ys.length) (ha : a + 32 ≤ ys.length) (hk : k + 32 ≤ xs.length) (hq : (xs.drop k).take 32 = (ys.drop a).take 32) :
    ∃ (i : Nat) (hi : i < ps.length), ps[i].n < (a : Int) + 32 ∧ (a : Int) < ps[i].n + ps[i].l := by
  obtain ⟨p, hp, h1, h2⟩ := h.met ha hk (fun j hj => cut_get hq hj)
  obtain ⟨i, hi, rfl⟩ := List.getElem_of_mem hp
  exact ⟨i, hi, h1, h2⟩
end Go.Proofs.Ytlcnbepldkbkgaa.Mx

namespace Go.Proofs.Ytlcnbepldkbkgaa.Dl
open Go.ChangeShapes Go.WideShapes Go.ChangeAt Go.RowKit Go.Proofs.Ytlcnbepldkbkgaa.Kit Go.Proofs.Ytlcnbepldkbkgaa.Mx Go.Proofs.Ytlcnbepldkbkgaa.Sx

def blockL (xs : List Int) (b i : Int) : List Int := if i < 0 ∨ blocksI xs.length b ≤ i then [] else (xs.drop (i * b).toNat).take b.toNat
/-- A block begins ahead of the end. -/
theorem begins_in {n b i : Int} (hi : 0 ≤ i) (h : i < blocksI n b) : 0 ≤ n ∧ 1 ≤ b ∧ 0 ≤ i * b ∧ i * b < n := by
  unfold blocksI at h
  by_cases hx : n < 0 ∨ b < 1
  · rw [if_pos hx] at h; omega
  · rw [if_neg hx] at h
    have hd := div_bd (n := n) (b := b) (by omega) (by omega)
    obtain ⟨k1, k2, k3, k4, k5, k6⟩ := hd
    have h0 : 0 ≤ i * b := Int.mul_nonneg hi (by omega)
    refine ⟨by omega, by omega, h0, ?_⟩
    by_cases hq : i < n / b
    · have h1 : i * b ≤ (n / b - 1) * b := Int.mul_le_mul_of_nonneg_right (by omega) (by omega)
      rw [Int.sub_mul, Int.one_mul, Int.mul_comm (n / b) b] at h1
      generalize b * (n / b) = p at *
      omega
    · have hr : 0 < n % b := by
        by_cases hr : 0 < n % b
        · exact hr
        · rw [if_neg hr] at h; omega
      rw [if_pos hr] at h
      have e : i = n / b := by omega
      rw [e, Int.mul_comm (n / b) b]
      generalize b * (n / b) = p at *
      omega

set_option maxRecDepth 100000 in
set_option maxHeartbeats 6400000 in
theorem block_any (A : Option Addr) (xs : List Int) (c : Nat) (b i : Int) (w : World) (hb : In64 b) (hi : In64 i) (hl : xs.length ≤ 140737488355328) (hc : xs.length ≤ c) (hr : Holds w w.heap.size .u8 A xs) :
    Calls Try.prog 9 #[.slice A xs.length c, .int .i64 b, .int .i64 i] w fun e w' => ∃ v, e = .returned v ∧ Own w' w.heap.size 5 .u8 v (blockL xs b i) ∧ Below w.heap.size w w' := by
  have hn64 : In64 (xs.length : Int) := by unfold In64; omega
  have GB := Lib.hid (fun W => blocks_any xs.length b hn64 hb W)
  have hbd := blocksI_bd (b := b) hn64
  unfold In64 at hb hi
  have HR := Lib.hid hr
  clear hr
  by_cases h0 : i < 0
  · have d0 : decide (i < 0) = true := decide_eq_true h0
    have e : blockL xs b i = [] := if_pos (.inl h0)
    rw [e]
    go_enter Try.func9, Try.ntmps9
    go_wp2
    go_ret
    exact ⟨_, rfl, Own.nil _ _ _ _, Below.refl _ _⟩
  have d0 : decide (i < 0) = false := decide_eq_false h0
  by_cases h1 : blocksI xs.length b ≤ i
  · have e : blockL xs b i = [] := if_pos (.inr h1)
    rw [e]
    clear e
    generalize blocksI xs.length b = N at *
    have d1 : decide (N ≤ i) = true := decide_eq_true h1
    go_enter Try.func9, Try.ntmps9
    go_wp2_with (go_at_call 7; (with_reducible refine (GB.out _).mono ?_); rintro e w1 ⟨rfl, rfl⟩)
    go_ret
    exact ⟨_, rfl, Own.nil _ _ _ _, Below.refl _ _⟩
  have hbe := begins_in (n := xs.length) (b := b) (i := i) (by omega) (by omega)
  have e : blockL xs b i = (xs.drop (i * b).toNat).take b.toNat := if_neg (by omega)
  rw [e]
  clear e
  generalize blocksI xs.length b = N at *
  have d1 : decide (N ≤ i) = false := decide_eq_false h1
  obtain ⟨_, hb1, hk0, hk1⟩ := hbe
  obtain ⟨K, hK⟩ : ∃ K : Nat, i * b = (K : Int) := ⟨(i * b).toNat, by omega⟩
  obtain ⟨B, rfl⟩ : ∃ B : Nat, b = (B : Int) := ⟨b.toNat, by omega⟩
  rw [hK] at hk0 hk1 ⊢
  rw [Int.toNat_natCast, Int.toNat_natCast]
  have hw1 : IntKind.i64.wrap (i * (B : Int)) = (K : Int) := by rw [hK]; exact IntWalk.i64_in _ (by omega)
  have hKl : K < xs.length := by omega
  obtain ⟨g, off, rfl, _, _⟩ := HR.out (by omega)
  obtain ⟨M, hM⟩ : ∃ M : Nat, (if ((xs.length - K : Nat) : Int) < (B : Int) then ((xs.length - K : Nat) : Int) else (B : Int)) = (M : Int) := ⟨(if ((xs.length - K : Nat) : Int) < (B : Int) then ((xs.length - K : Nat) : Int) else (B : Int)).toNat, by split <;> omega⟩
  have hM3 : (if xs.length - K < B then ((xs.length - K : Nat) : Int) else (B : Int)) = (M : Int) := by rw [← hM]; split <;> split <;> omega
  have hM1 : M ≤ xs.length - K ∧ M ≤ B ∧ (M = B ∨ M = xs.length - K) := by split at hM <;> omega
  have htk : (xs.drop K).take B = (xs.drop K).take M := by
    rcases hM1.2.2 with h | h
    · rw [h]
    · rw [List.take_of_length_le (by rw [List.length_drop]; omega), List.take_of_length_le (by rw [List.length_drop]; omega)]
  rw [htk]
  have hlen : ((xs.drop K).take M).length = M := by rw [List.length_take, List.length_drop]; omega
  have hcK : ¬ c = K := by omega
  have HC := Lib.hid (holds_cut HR.out K M)
  have HLEN := Lib.hid hlen
  have m1 := hM1.1
  have m2 : K + M ≤ c := by omega
  have m3 : 0 < M := by omega
  have HNIL := Lib.hid (World.ownsRow_nil w w.heap.size 5 1)
  have hnew : ∀ j u, (((xs.drop K).take M).map (Value.int .u8))[j]? = some u → w.cell? (Addr.add ⟨g, off + K, none⟩ j) = some u := by
    intro j u hu
    obtain ⟨hj, rfl⟩ := get_ints hu
    obtain ⟨b', off', h', _, hc'⟩ := HC.out (by omega)
    injection h' with h'
    injection h' with e1 e2
    subst e1 e2
    rw [add_plain]
    exact (hc' j hj).trans (by simp [List.getD])
  have HNEW := Lib.hid hnew
  obtain ⟨ht8, hinfo8, _⟩ := elem8
  obtain ⟨i8, hi8, hz8, hs8, hby8⟩ := info_parts hinfo8
  clear hnew hlen htk hM1 hk0 hk1 hK
  go_enter Try.func9, Try.ntmps9
  go_wp2_with (first
    | (go_at_call 7; (with_reducible refine (GB.out _).mono ?_); rintro e w1 ⟨rfl, rfl⟩)
    | (at_builtin; go_loud (refine wpList_append_lies _ rfl _ _ _ rfl w.heap.size 5 i8 _ 1 1 ht8 hi8 hz8 hs8 hby8 rfl (by omega) (.slice none 0 0) 0 [] rfl HNIL.out ⟨g, off + K, none⟩ M (c - K) (((xs.drop K).take M).map (Value.int .u8)) rfl (by rw [List.length_map, HLEN.out, Nat.mul_one]) HNEW.out (ints_one .u8 _) m3 (by unfold maxLen; omega) (by omega) (Nat.le_refl _) w.heap.size rfl ?_; intro g5 cap5 w5 own5 hg5 _ _)))
  go_ret
  refine ⟨_, rfl, ?_, (Below.refl _ w).grown hg5 (Nat.le_refl _) (fun k hk => by simp [Value.ownBlock] at hk)⟩
  unfold Own
  rw [HLEN.out]
  simpa using own5
set_option maxRecDepth 100000 in
set_option maxHeartbeats 6400000 in
theorem rblock_any (A : Option Addr) (xs : List Int) (c : Nat) (b i : Int) (w : World) (hb : In64 b) (hi : In64 i) (hl : xs.length ≤ 1000000) (hc : xs.length ≤ c) (hr : Holds w w.heap.size .u8 A xs) :
    Calls Try.prog 10 #[.slice A xs.length c, .int .i64 b, .int .i64 i] w fun e w' => ∃ (A' : Option Addr) (c' : Nat), e = .returned (.slice A' (blockL xs b i).length c') ∧ Holds w' w'.heap.size .u8 A' (blockL xs b i) ∧ Below w.heap.size w w' := by
  have hn64 : In64 (xs.length : Int) := by unfold In64; omega
  have GB := Lib.hid (fun W => rblocks_any xs.length b hn64 hb W)
  have hbd := blocksI_bd (b := b) hn64
  unfold In64 at hb hi
  have HR := Lib.hid hr
  have HAL := Lib.hid (fun o => (Below.refl w.heap.size w).alloc (Nat.le_refl _) o)
  clear hr
  by_cases h0 : i < 0
  · have d0 : decide (i < 0) = true := decide_eq_true h0
    have e : blockL xs b i = [] := if_pos (.inl h0)
    rw [e]
    go_enter Try.func10, Try.ntmps10
    go_wp2
    go_ret
    exact ⟨_, _, rfl, Holds.nil, HAL.out _⟩
  have d0 : decide (i < 0) = false := decide_eq_false h0
  by_cases h1 : blocksI xs.length b ≤ i
  · have e : blockL xs b i = [] := if_pos (.inr h1)
    rw [e]
    clear e
    generalize blocksI xs.length b = N at *
    have d1 : decide (N ≤ i) = true := decide_eq_true h1
    go_enter Try.func10, Try.ntmps10
    go_wp2_with (go_at_call 8; (with_reducible refine (GB.out _).mono ?_); rintro e w1 ⟨rfl, rfl⟩)
    go_ret
    exact ⟨_, _, rfl, Holds.nil, HAL.out _⟩
  have hbe := begins_in (n := xs.length) (b := b) (i := i) (by omega) (by omega)
  have e : blockL xs b i = (xs.drop (i * b).toNat).take b.toNat := if_neg (by omega)
  rw [e]
  clear e
  generalize blocksI xs.length b = N at *
  have d1 : decide (N ≤ i) = false := decide_eq_false h1
  obtain ⟨_, hb1, hk0, hk1⟩ := hbe
  obtain ⟨K, hK⟩ : ∃ K : Nat, i * b = (K : Int) := ⟨(i * b).toNat, by omega⟩
  obtain ⟨B, rfl⟩ : ∃ B : Nat, b = (B : Int) := ⟨b.toNat, by omega⟩
  rw [hK] at hk0 hk1 ⊢
  rw [Int.toNat_natCast, Int.toNat_natCast]
  have hw1 : IntKind.i64.wrap (i * (B : Int)) = (K : Int) := by rw [hK]; exact IntWalk.i64_in _ (by omega)
  have hKl : K < xs.length := by omega
  obtain ⟨g, off, rfl, _, _⟩ := HR.out (by omega)
  have hcK : ¬ c = K := by omega
  by_cases h5 : (B : Int) < (xs.length : Int) - (K : Int)
  · have d5 : decide ((B : Int) < (xs.length : Int) - (K : Int)) = true := decide_eq_true h5
    have hlen : ((xs.drop K).take B).length = B := by rw [List.length_take, List.length_drop]; omega
    have hw2 : IntKind.i64.wrap (i + 1) = i + 1 := IntWalk.i64_in _ (by omega)
    have hw3 : IntKind.i64.wrap ((i + 1) * (B : Int)) = ((K + B : Nat) : Int) := by rw [Int.add_mul, Int.one_mul, hK, IntWalk.i64_in _ (by omega)]; omega
    have hs : K + B - K = B := by omega
    have m2 : K + B ≤ c := by omega
    have HC := Lib.hid (holds_cut HR.out K B)
    rw [hlen]
    clear hlen hk0 hk1 hK
    go_enter Try.func10, Try.ntmps10
    go_wp2_with (go_at_call 8; (with_reducible refine (GB.out _).mono ?_); rintro e w1 ⟨rfl, rfl⟩)
    go_ret
    refine ⟨some ⟨g, off + K, none⟩, c - K, ?_, HC.out, Below.refl _ _⟩
    simp [hs]
  · have d5 : decide ((B : Int) < (xs.length : Int) - (K : Int)) = false := decide_eq_false h5
    have htk : (xs.drop K).take B = xs.drop K := List.take_of_length_le (by rw [List.length_drop]; omega)
    rw [htk, List.length_drop]
    have HC := Lib.hid (holds_tail HR.out K)
    clear htk hk0 hk1 hK
    go_enter Try.func10, Try.ntmps10
    go_wp2_with (go_at_call 8; (with_reducible refine (GB.out _).mono ?_); rintro e w1 ⟨rfl, rfl⟩)
    go_ret
    exact ⟨some ⟨g, off + K, none⟩, c - K, rfl, HC.out, Below.refl _ _⟩
end Go.Proofs.Ytlcnbepldkbkgaa.Dl

namespace Go.Proofs.Ytlcnbepldkbkgaa.Dl
open Go.ChangeShapes Go.WideShapes Go.ChangeAt Go.RowKit Go.Proofs.Ytlcnbepldkbkgaa.Kit Go.Proofs.Ytlcnbepldkbkgaa.Mx Go.Proofs.Ytlcnbepldkbkgaa.Sx

theorem literal_no (A : Option Addr) (xs : List Int) (c : Nat) (w : World) (hl : xs.length ≤ 1000000) (hn : xs.length < 1 ∨ 4096 < xs.length) :
    Calls Try.prog 11 #[.slice A xs.length c] w fun e w' => e = .returned (.slice none 0 0) ∧ w = w' := by
  by_cases h0 : xs.length < 1
  · have d0 : decide ((xs.length : Int) < 1) = true := decide_eq_true (by omega)
    have d1 : decide (xs.length < 1) = true := decide_eq_true h0
    go_enter Try.func11, Try.ntmps11
    go_wp2
    go_ret
    exact ⟨rfl, rfl⟩
  · have d0 : decide ((xs.length : Int) < 1) = false := decide_eq_false (by omega)
    have d1 : decide (xs.length < 1) = false := decide_eq_false h0
    have d2 : decide ((4096 : Int) < (xs.length : Int)) = true := decide_eq_true (by omega)
    have d3 : decide (4096 < xs.length) = true := decide_eq_true (by omega)
    go_enter Try.func11, Try.ntmps11
    go_wp2
    go_ret
    exact ⟨rfl, rfl⟩

set_option maxRecDepth 100000 in
set_option maxHeartbeats 6400000 in
theorem literal_yes (A : Option Addr) (xs : List Int) (c : Nat) (w : World) (h1 : 1 ≤ xs.length) (h2 : xs.length ≤ 4096) (hr : Holds w w.heap.size .u8 A xs) :
    Calls Try.prog 11 #[.slice A xs.length c] w fun e w' => ∃ (A3 : Option Addr) (c3 : Nat) (w3 : World), e = .returned (.slice (some ⟨w3.heap.size, 0, none⟩) 1 1) ∧ w' = w3.alloc (.cells #[.int .u8 1, .int .i64 0, .int .i64 xs.length, .slice A3 xs.length c3] 30) ∧
      Own w3 w.heap.size 5 .u8 (.slice A3 xs.length c3) xs ∧ xs.length ≤ c3 ∧ c3 ≤ maxLen ∧ Below w.heap.size w w3 := by
  have d0 : decide ((xs.length : Int) < 1) = false := decide_eq_false (by omega)
  have d1 : decide (xs.length < 1) = false := decide_eq_false (by omega)
  have d2 : decide ((4096 : Int) < (xs.length : Int)) = false := decide_eq_false (by omega)
  have d3 : decide (4096 < xs.length) = false := decide_eq_false (by omega)
  have HR := Lib.hid hr
  clear hr
  go_enter Try.func11, Try.ntmps11
  go_wp2_with (at_builtin; refine wpList_append_ints (xs := []) (ys := xs) (B := w.heap.size) _ rfl _ _ _ rfl elem8 (Own.nil _ _ _ _) rfl rfl HR.out (by simp; omega) (by simp) ?_; intro v3 w3 own3 hg3 hb3 hv3; rw [List.nil_append] at own3; obtain ⟨A3, c3, rfl, hcc, hcm, hh⟩ := own3.opened; have HO := Lib.hid own3; have HB := Lib.hid hb3; clear own3 hg3 hb3 hh)
  go_ret
  exact ⟨A3, c3, w3, rfl, rfl, HO.out, hcc, hcm, HB.out⟩
end Go.Proofs.Ytlcnbepldkbkgaa.Dl

namespace Go.Proofs.Ytlcnbepldkbkgaa.Dl
open Go.ChangeShapes Go.WideShapes Go.ChangeAt Go.RowKit Go.Proofs.Ytlcnbepldkbkgaa.Kit Go.Proofs.Ytlcnbepldkbkgaa.Mx Go.Proofs.Ytlcnbepldkbkgaa.Sx Go.Proofs.Ytlcnbepldkbkgaa.Pl

set_option maxRecDepth 100000 in
set_option maxHeartbeats 6400000 in
/-- The first bytes as they are. -/
theorem withLit_first (A : Option Addr) (xs : List Int) (c : Nat) (w : World) (h1 : 1 ≤ xs.length) (h2 : xs.length ≤ 4096) (hr : Holds w w.heap.size .u8 A xs) :
    Calls Try.prog 26 #[.slice none 0 0, .slice A xs.length c] w fun e w' => ∃ (A' : Option Addr) (c' : Nat) (A3 : Option Addr) (c3 : Nat), e = .returned (.slice A' 1 c') ∧ OwnSteps w' w.heap.size (.slice A' 1 c') [⟨1, 0, xs.length, A3, c3, xs⟩] ∧
      Own w' w.heap.size 5 .u8 (.slice A3 xs.length c3) xs ∧ xs.length ≤ c3 ∧ c3 ≤ maxLen ∧ Below w.heap.size w w' := by
  have GL := Lib.hid (literal_yes A xs c w h1 h2 hr)
  clear hr
  go_enter Try.func26, Try.ntmps26
  go_wp2_with (first
    | (go_at_call 11; refine GL.out.mono ?_; rintro e w1 ⟨A3, c3, w3, rfl, rfl, own3, k1, k2, hb3⟩; have HO := Lib.hid own3; have HB := Lib.hid hb3; have HK := Lib.hid k2; clear own3 hb3 k2)
    | (at_builtin; go_loud (refine wpList_append_step rfl _ _ rfl ⟨1, 0, xs.length, A3, c3, xs⟩ (OwnSteps.nil w3 w.heap.size) rfl rfl (by simp) HB.out.size ?_; intro A9 c9 w4 own4 tu)))
  go_ret
  have hb4 := tu.toBelow (B := w3.heap.size) (Nat.le_refl _) (fun b hb hs => by simp [Value.ownBlock] at hs)
  exact ⟨A9, c9, A3, c3, rfl, own4, Own.below HO.out hb4, k1, HK.out, HB.out.trans (hb4.mono HB.out.size)⟩
end Go.Proofs.Ytlcnbepldkbkgaa.Dl

namespace Go.Proofs.Ytlcnbepldkbkgaa.Dl
open Go.ChangeShapes Go.WideShapes Go.ChangeAt Go.RowKit Go.Proofs.Ytlcnbepldkbkgaa.Kit Go.Proofs.Ytlcnbepldkbkgaa.Mx Go.Proofs.Ytlcnbepldkbkgaa.Sx Go.Proofs.Ytlcnbepldkbkgaa.Pl

set_option maxRecDepth 100000 in
set_option maxHeartbeats 6400000 in
theorem planOf_none (v0 : Value) (A0 : Option Addr) (c0 : Nat) (A : Option Addr) (xs : List Int) (c : Nat) (from_ : Int) (w : World) (h1 : 1 ≤ xs.length) (h2 : xs.length ≤ 4096) (hc : xs.length ≤ c) (ho : Octets xs) (hr : Holds w w.heap.size .u8 A xs) :
    Calls Try.prog 19 #[v0, .slice A xs.length c, .int .i64 from_, .slice A0 0 c0] w fun e w' => ∃ (A' : Option Addr) (c' : Nat) (A3 : Option Addr) (c3 : Nat), e = .returned (.slice A' 1 c') ∧ OwnSteps w' w.heap.size (.slice A' 1 c') [⟨1, 0, xs.length, A3, c3, xs⟩] ∧
      Own w' w.heap.size 5 .u8 (.slice A3 xs.length c3) xs ∧ xs.length ≤ c3 ∧ c3 ≤ maxLen ∧ Below w.heap.size w w' := by
  obtain ⟨g, off, rfl, _, _⟩ := hr (by omega)
  have GW := Lib.hid (withLit_first (some ⟨g, off, none⟩) xs c w h1 h2 hr)
  have hc0 : ¬ c = 0 := by omega
  clear hr
  go_enter Try.func19, Try.ntmps19
  go_wp2_with fail
  go_loop [9, 10, 17] (fun l a i => l = .slice none 0 0 ∧ a = .int .i64 0 ∧ i = .int .i64 0) (fun _ _ _ => 0)
  case atStart => exact ⟨rfl, rfl, rfl⟩
  case round =>
    obtain ⟨rfl, rfl, rfl⟩ := hrel
    go_wp2_with fail
    refine GW.out.mono ?_
    rintro e w1 ⟨A', c', A3, c3, rfl, own, dat, k1, k2, hb⟩
    have hfine : ∀ s ∈ ([⟨1, 0, xs.length, A3, c3, xs⟩] : List Stp), FineS s ∧ Holds w1 w1.heap.size .u8 s.A s.zs := by
      intro s hs
      obtain rfl : s = _ := by simpa using hs
      refine ⟨⟨rfl, rfl, ?_, k1, k2, ho⟩, ?_⟩
      · show (decide (-9223372036854775808 ≤ (xs.length : Int)) && decide ((xs.length : Int) ≤ 9223372036854775807)) = true
        rw [decide_eq_true (by omega), decide_eq_true (by omega)]; rfl
      · obtain ⟨_, _, e1, _, _, hh⟩ := dat.opened
        injection e1 with e2 e3 e4
        subst e2 e4
        exact hh
    obtain ⟨q0, q1, q2, q3⟩ := own.holds hfine
    have GS := size_any A' [⟨1, 0, xs.length, A3, c3, xs⟩] c' w1 (by simp) q1 q2 q3
    obtain ⟨Z, hZ⟩ : ∃ Z : Int, (if ([⟨1, 0, xs.length, A3, c3, xs⟩] : List Stp).all rightS = true then ((putB [⟨1, 0, xs.length, A3, c3, xs⟩]).length : Int) else 0) = Z := ⟨_, rfl⟩
    have hZ1 : Z ≤ (xs.length : Int) + 12 := by
      have hn := numB_length (xs.length : Int)
      have hp : (putB [⟨1, 0, xs.length, A3, c3, xs⟩]).length = 1 + (numB (xs.length : Int)).length + xs.length := by simp [putB, putS]; omega
      rw [hp] at hZ
      split at hZ <;> omega
    have GS2 : Calls Try.prog 28 #[.slice A' 1 c'] w1 (Gives (.int .i64 Z) w1) := by rw [← hZ]; exact_mod_cast GS
    have HGS := Lib.hid GS2
    have d5 : decide ((xs.length : Int) + 12 < Z) = false := decide_eq_false (by omega)
    have HO := Lib.hid own
    have HD := Lib.hid dat
    have HB := Lib.hid hb
    have HK := Lib.hid k2
    clear GS GS2 hZ hfine q0 q1 q2 q3 own dat hb k2 GW
    go_wp2_with (go_at_call 28; refine HGS.out.mono ?_; rintro e w2 ⟨rfl, hb2⟩)
    go_ret
    exact ⟨A', c', A3, c3, rfl, OwnSteps.below HO.out hb2, Own.below HD.out hb2, k1, HK.out, HB.out.trans (hb2.mono HB.out.size)⟩
end Go.Proofs.Ytlcnbepldkbkgaa.Dl

namespace Go.Proofs.Ytlcnbepldkbkgaa.Dl
open Go.ChangeShapes Go.WideShapes Go.ChangeAt Go.RowKit Go.Proofs.Ytlcnbepldkbkgaa.Kit Go.Proofs.Ytlcnbepldkbkgaa.Mx Go.Proofs.Ytlcnbepldkbkgaa.Sx Go.Proofs.Ytlcnbepldkbkgaa.Pl Go.Proofs.Ytlcnbepldkbkgaa.Mt

theorem none_found {ps : List Pc} {ys : List Int} {e i : Nat} (h : FoundL [] ys ps e i) : ps = [] := by
  cases ps with
  | nil => rfl
  | cons p ps =>
    have h1 := one_bd (runL_one h.run p (by simp))
    simp only [List.length_nil] at h1
    omega
theorem elemSS : ValElem Try.prog 33 26 (.slice none 0 0) 24 := by
  refine ⟨?_, ?_, ?_, ?_⟩ <;> first | kernel_rfl | rfl | decide

set_option maxRecDepth 100000 in
set_option maxHeartbeats 6400000 in
theorem plans_one (A : Option Addr) (c : Nat) (w : World) (hc : 1 ≤ c) (hr : Holds w w.heap.size .u8 A [97]) :
    Calls Try.prog 14 #[.slice none 0 0, .slice A 1 c, .int .i64 128] w fun e w' => ∃ (A' : Option Addr) (c' : Nat), e = .returned (.tuple #[.slice A' 1 c', .int .i64 0]) ∧ Below w.heap.size w w' := by
  have ob : Octets [97] := by intro x hx; obtain rfl : x = 97 := (by simpa using hx); omega
  have GI := Lib.hid (fun W => isBlock_any 128 W)
  rw [show isBlkB 128 = true by decide] at GI
  have GB := Lib.hid (fun W => blocks_any 1 128 (by unfold In64; omega) (by unfold In64; omega) W)
  rw [show blocksI 1 128 = 1 by decide] at GB
  have GF := Lib.hid (find_any (w := w) (xs := []) (ys := [97]) none A 0 c Holds.nil hr (by simp) (by simp) (by intro x hx; simp at hx) ob hc)
  have GK := Lib.hid (fun W (hW : Below w.heap.size w W) => block_any A [97] c 128 0 W (by unfold In64; omega) (by unfold In64; omega) (by simp) hc ((hr.below hW).more hW.size))
  rw [show blockL [97] 128 0 = [97] by decide] at GK
  have GP := Lib.hid (fun A5 c5 W h5 hW A0 c0 => planOf_none (.slice none 0 0) A0 c0 A5 [97] c5 0 W (by simp) (by simp) h5 ob hW)
  clear hr
  go_enter Try.func14, Try.ntmps14
  go_wp2_with (first
    | (go_at_call 17; (with_reducible refine (GI.out _).mono ?_); rintro e w1 ⟨rfl, rfl⟩)
    | (go_at_call 18; refine GF.out.mono ?_; rintro e w2 ⟨A0, c0, ps, e9, rfl, hfl, hh, hb⟩; obtain rfl := none_found hfl; have HB := Lib.hid hb; clear hfl hh hb)
    | (go_at_call 7; (with_reducible refine (GB.out _).mono ?_); rintro e w1 ⟨rfl, rfl⟩))
  go_loopw [8, 9, 30] (fun sp sl si wr => sp = .slice A0 0 c0 ∧ ((sl = .slice none 0 0 ∧ si = .int .i64 0) ∨ (∃ A' c', sl = .slice A' 1 c' ∧ si = .int .i64 1)) ∧ Below w.heap.size w wr) (fun _ _ si _ => 1 - (intOf si).toNat)
  case atStart => exact ⟨rfl, .inl ⟨rfl, rfl⟩, HB.out⟩
  case round =>
    obtain ⟨rfl, hd, hB⟩ := hrel
    rcases hd with ⟨rfl, rfl⟩ | ⟨A', c', rfl, rfl⟩
    · go_wp2_with fail
      go_loopw [8] (fun sp wx => sp = .slice A0 0 c0 ∧ Below w.heap.size w wx) (fun _ _ => 0)
      case atStart => exact ⟨rfl, hB⟩
      case round =>
        obtain ⟨rfl, hB2⟩ := hrel
        go_wp2_with fail
        go_quiet (fail)
        have hB3 := below_draws hB2 nq
        have HB3 := Lib.hid hB3
        have GK1 := Lib.hid (GK.out _ hB3)
        clear hB hB2 hB3
        go_wp2_with (first
          | (go_at_call 9; refine GK1.out.mono ?_; rintro e w4 ⟨v4, rfl, own4, hb4⟩; obtain ⟨A5, c5, rfl, k5, _, hh5⟩ := own4.opened; have GP1 := Lib.hid (GP.out A5 c5 w4 k5 hh5 A0 c0); have HB4 := Lib.hid (HB3.out.trans (hb4.mono HB3.out.size)); clear own4 hb4 hh5 GK1)
          | (go_at_call 19; have _t := GP1; clear _t; refine GP1.out.mono ?_; rintro e w6 ⟨A6, c6, A7, c7, rfl, own6, dat6, k6, k7, hb6⟩; have HB6 := Lib.hid (HB4.out.trans (hb6.mono HB4.out.size)); clear own6 dat6 k6 k7 hb6 GP1)
          | (at_builtin; go_loud (refine wpList_append_val rfl _ _ _ rfl elemSS (OwnV.nil w6 w.heap.size _) rfl rfl rfl (by simp) HB6.out.size ?_; intro v8 w8 own8 hg8 hb8; obtain ⟨g8, c8, rfl, _, _⟩ := own8.form (by simp))))
        go_roundw
        case rel => exact ⟨rfl, .inr ⟨_, _, rfl, rfl⟩, HB6.out.trans hb8⟩
        case measure => decide
    · go_wp2_with fail
      go_ret2
      exact ⟨A', c', rfl, hB⟩

set_option maxRecDepth 100000 in
set_option maxHeartbeats 3200000 in
theorem awake_any (w : World) : Calls Try.prog 6 #[] w fun e w' => e = .returned (.bool true) ∧ Below w.heap.size w w' := by
  have B1 := (Below.refl w.heap.size w).alloc (Nat.le_refl _) (.cells #[.int .u8 97] 5 (1, 2))
  have kc : ∀ W : World, (convert 22 22 (.slice (some ⟨W.heap.size, 0, none⟩) 1 1)).run Try.prog (W.alloc (.cells #[.int .u8 97] 5)) = .ok (.slice (some ⟨W.heap.size, 0, none⟩) 1 1) (W.alloc (.cells #[.int .u8 97] 5 (1, 2))) := fun W => Lib.run_convert_bytes_const (P := Try.prog) W 22 5 #[.int .u8 97] 1 1 Try.underlying22 Try.underlying5
  have hr : Holds (w.alloc (.cells #[.int .u8 97] 5 (1, 2))) (w.alloc (.cells #[.int .u8 97] 5 (1, 2))).heap.size .u8 (some ⟨w.heap.size, 0, none⟩) [97] := holds_const (zs := [97]) (1, 2)
  have GP := Lib.hid (plans_one (some ⟨w.heap.size, 0, none⟩) 1 _ (by omega) hr)
  have GB := Lib.hid (fun W => blocks_any 300 128 (by unfold In64; omega) (by unfold In64; omega) W)
  rw [show blocksI 300 128 = 3 by decide] at GB
  clear hr
  go_enter Try.func6, Try.ntmps6
  go_wp2_with (first
    | (go_at_call 14; refine GP.out.mono ?_; rintro e w1 ⟨A', c', rfl, hb⟩; have HB := Lib.hid (B1.trans (hb.mono B1.size)); clear hb)
    | (go_at_call 7; (with_reducible refine (GB.out _).mono ?_); rintro e w2 ⟨rfl, rfl⟩))
  go_ret
  exact ⟨rfl, HB.out⟩
end Go.Proofs.Ytlcnbepldkbkgaa.Dl

namespace Go.Proofs.Ytlcnbepldkbkgaa.Dl

theorem blocks_cover {n b : Int} (hn : 0 ≤ n) (hb : 1 ≤ b) : n ≤ blocksI n b * b ∧ (∀ i, i < blocksI n b - 1 → i * b + b ≤ n) := by
  have hd := div_bd hn hb
  obtain ⟨k1, k2, k3, k4, k5, k6⟩ := hd
  have e : blocksI n b = n / b + if 0 < n % b then 1 else 0 := if_neg (by omega)
  rw [e]
  constructor
  · rw [Int.add_mul, Int.mul_comm (n / b) b]
    generalize b * (n / b) = p at *
    split <;> omega
  · intro i hi
    have h1 : i ≤ n / b - 1 := by split at hi <;> omega
    have h2 : i * b ≤ (n / b - 1) * b := Int.mul_le_mul_of_nonneg_right h1 (by omega)
    rw [Int.sub_mul, Int.one_mul, Int.mul_comm (n / b) b] at h2
    generalize b * (n / b) = p at *
    omega
theorem blockL_zero {xs : List Int} {b : Int} : (blockL xs b 0).length = 0 ↔ (b < 1 ∨ xs.length = 0) := by
  unfold blockL
  by_cases hb : b < 1
  · have e : blocksI xs.length b = 0 := if_pos (.inr hb)
    rw [e]
    simp [hb]
  · have hc := blocks_cover (n := xs.length) (b := b) (by omega) (by omega)
    have hbd := blocksI_bd (n := xs.length) (b := b)
    by_cases h0 : xs.length = 0
    · have e : blocksI xs.length b = 0 := by
        rw [h0]
        simp [blocksI]
      rw [e]
      simp [h0]
    · have h1 : ¬ ((0 : Int) < 0 ∨ blocksI xs.length b ≤ 0) := by
        intro h
        have h2 : blocksI xs.length b ≤ 0 := by omega
        have h3 : blocksI xs.length b * b ≤ 0 * b := Int.mul_le_mul_of_nonneg_right h2 (by omega)
        rw [Int.zero_mul] at h3
        omega
      rw [if_neg h1, Int.zero_mul, List.length_take, List.length_drop]
      omega
theorem blockL_next {xs : List Int} {B j : Nat} (hB : 1 ≤ B) (hj : (j : Int) < blocksI xs.length B) :
    xs.take (j * B) ++ blockL xs B j = xs.take ((j + 1) * B) ∧ 1 ≤ (blockL xs B j).length ∧ (blockL xs B j).length ≤ B ∧ ((j : Int) < blocksI xs.length B - 1 → (blockL xs B j).length = B) := by
  have hi := begins_in (n := xs.length) (b := B) (i := j) (by omega) hj
  have hc := blocks_cover (n := xs.length) (b := B) (by omega) (by omega)
  have e : blockL xs B j = (xs.drop (j * B)).take B := by
    unfold blockL
    rw [if_neg (by omega), ← Int.natCast_mul, Int.toNat_natCast, Int.toNat_natCast]
  have hK : ((j * B : Nat) : Int) = (j : Int) * B := Int.natCast_mul j B
  rw [e]
  refine ⟨?_, ?_, ?_, fun h => ?_⟩
  · rw [Nat.add_mul, Nat.one_mul, List.take_add]
  · rw [List.length_take, List.length_drop]; omega
  · rw [List.length_take]; omega
  · have := hc.2 j h
    rw [List.length_take, List.length_drop]
    omega
theorem take_all {xs : List Int} {B N : Nat} (hB : 1 ≤ B) (hN : (N : Int) = blocksI xs.length B) : xs.take (N * B) = xs := by
  have hc := blocks_cover (n := xs.length) (b := B) (by omega) (by omega)
  have hK : ((N * B : Nat) : Int) = (N : Int) * B := Int.natCast_mul N B
  rw [← hN] at hc
  exact List.take_of_length_le (by omega)
end Go.Proofs.Ytlcnbepldkbkgaa.Dl
