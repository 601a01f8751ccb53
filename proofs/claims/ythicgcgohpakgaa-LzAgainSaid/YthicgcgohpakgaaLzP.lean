/-
  Layer 11, lz: matches and choices, plainly. No program. Conditions: as each theorem names.
-/
import Derived.Test.YthicgcgohpakgaaLzC
import Derived.Test.YthicgcgohpakgaaLzF
namespace Go.Proofs.Ythicgcgohpakgaa.Lz
open Go.RowKit Go.Proofs.Ythicgcgohpakgaa.Kit

/-- The newest place ahead of i that has key x; -1: none. -/
def lastK (K : Nat → Int) : Nat → Int → Int
  | 0, _ => -1
  | i + 1, x => if K i = x then (i : Int) else lastK K i x
theorem lastK_bd (K : Nat → Int) : ∀ (i : Nat) (x : Int), -1 ≤ lastK K i x ∧ lastK K i x < i
  | 0, _ => by unfold lastK; omega
  | i + 1, x => by
    have := lastK_bd K i x
    unfold lastK
    split <;> omega

/-- A match of place i: so many bytes, so far back. -/
def MatchOk (b : List Int) (i : Nat) (m : Nat × Nat) : Prop :=
  m.1 = 0 ∨ (1 ≤ m.2 ∧ m.2 ≤ 32768 ∧ m.2 ≤ i ∧ m.1 ≤ 258 ∧ i + m.1 ≤ b.length ∧ ∀ k, k < m.1 → b[i - m.2 + k]?.getD 0 = b[i + k]?.getD 0)
def mostN (b : List Int) (i : Nat) : Nat := min (b.length - i) 258
/-- The nearest place's match isn't missed. -/
def FirstOk (b : List Int) (K : Nat → Int) (tries : Int) (i : Nat) (m : Nat × Nat) : Prop :=
  1 ≤ tries → 0 ≤ lastK K i (K i) → (i : Int) - lastK K i (K i) ≤ 32768 → ∀ n, Alike b (lastK K i (K i)).toNat i (mostN b i) n → n ≤ m.1
structure FoundAt (b : List Int) (K : Nat → Int) (tries : Int) (i : Nat) (m : Nat × Nat) : Prop where
  ok : MatchOk b i m
  no : tries < 1 → m.1 = 0
  first : i + 3 ≤ b.length → FirstOk b K tries i m
/-- What matches gives. -/
structure Found (b : List Int) (K : Nat → Int) (tries : Int) (ms : List (Nat × Nat)) : Prop where
  len : ms.length = b.length
  at_ : ∀ i, i < b.length → FoundAt b K tries i (ms.getD i (0, 0))
theorem foundAt_none (b : List Int) (K : Nat → Int) (tries : Int) (i : Nat) (h : ¬ i + 3 ≤ b.length) : FoundAt b K tries i (0, 0) := ⟨.inl rfl, fun _ => rfl, fun h' => absurd h' h⟩

/-- What choose gives: how many bytes each token has, how many tokens there are to the end. -/
structure Chosen (n : Nat) (S : Nat → Nat) (L T : Nat → Int) : Prop where
  end_ : T n = 0
  one : ∀ i, i < n → L i = 1 ∨ (3 ≤ L i ∧ L i ≤ S i)
  eq : ∀ i, i < n → T i = 1 + T (i + (L i).toNat)
  le1 : ∀ i, i < n → T i ≤ 1 + T (i + 1)
  le : ∀ i t, i < n → 3 ≤ t → t ≤ S i → T i ≤ 1 + T (i + t)

theorem again_bound {n : Nat} {T : Nat → Int} (h0 : T n = 0) (h1 : ∀ i, i < n → T i ≤ 1 + T (i + 1)) (h2 : ∀ i, 1 ≤ i → i + 3 ≤ n → T i ≤ 1 + T (i + min (n - i) 258)) :
    ∀ d i, n - i = d → 1 ≤ i → i ≤ n → T i ≤ ((d / 258 : Nat) : Int) + 2 := by
  intro d
  induction d using Nat.strongRecOn with
  | ind d ih =>
    intro i hd hi hn
    by_cases h3 : i + 3 ≤ n
    · have h := h2 i hi h3
      by_cases h258 : 258 ≤ n - i
      · rw [Nat.min_eq_right h258] at h
        have := ih (d - 258) (by omega) (i + 258) (by omega) (by omega) (by omega)
        omega
      · rw [Nat.min_eq_left (by omega), show i + (n - i) = n by omega, h0] at h
        omega
    · by_cases h2' : i + 2 = n
      · have a := h1 i (by omega)
        have b := h1 (i + 1) (by omega)
        rw [show i + 1 + 1 = n by omega, h0] at b
        omega
      · by_cases h1' : i + 1 = n
        · have a := h1 i (by omega)
          rw [h1', h0] at a
          omega
        · obtain rfl : i = n := by omega
          omega
theorem again_all {n : Nat} {T : Nat → Int} (h0 : T n = 0) (h1 : ∀ i, i < n → T i ≤ 1 + T (i + 1)) (h2 : ∀ i, 1 ≤ i → i + 3 ≤ n → T i ≤ 1 + T (i + min (n - i) 258)) :
    T 0 ≤ ((n / 258 : Nat) : Int) + 4 := by
  by_cases hn : n = 0
  · subst hn
    rw [h0]
    omega
  · have a := h1 0 (by omega)
    have b := again_bound h0 h1 h2 (n - 1) 1 rfl (by omega) (by omega)
    simp only [Nat.zero_add] at a
    omega
/-- All bytes the same: the nearest place is the one ahead. -/
theorem lastK_same {K : Nat → Int} {x : Int} {m : Nat} (h : ∀ j, j < m → K j = x) {i : Nat} (h1 : 1 ≤ i) (hi : i ≤ m) : lastK K i x = (i : Int) - 1 := by
  obtain ⟨j, rfl⟩ : ∃ j, i = j + 1 := ⟨i - 1, by omega⟩
  unfold lastK
  rw [if_pos (h j (by omega))]
  omega
end Go.Proofs.Ythicgcgohpakgaa.Lz
