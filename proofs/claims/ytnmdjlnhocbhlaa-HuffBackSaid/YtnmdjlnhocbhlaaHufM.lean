/-
  Layer 9, huff: the plain arithmetic of lengths. No program. No conditions beyond what each theorem names.
-/
import Derived.Test.YtnmdjlnhocbhlaaBitM
namespace Go.Proofs.Ytnmdjlnhocbhlaa.Huf
open Go.RowKit Go.Proofs.Ytnmdjlnhocbhlaa.Kit Go.Proofs.Ytnmdjlnhocbhlaa.Bits

/-- How much of all codes a code of so many bits takes, in 32768ths. -/
def part1 (n : Int) : Int := if 0 < n then 2 ^ (15 - n.toNat) else 0
def kr : List Int → Int
  | [] => 0
  | n :: l => part1 n + kr l
def nz : List Int → Int
  | [] => 0
  | n :: l => (if 0 < n then 1 else 0) + nz l
/-- The last length above 0. -/
def lastNz (l : List Int) : Int := l.foldl (fun f n => if 0 < n then n else f) 0
def mayB (l : List Int) : Bool := decide (l.length ≤ 300) && (l.all fun n => decide (n ≤ 15)) && (decide (kr l = 32768) || (decide (nz l = 0) || (decide (nz l = 1) && decide (kr l = 16384))))

theorem kr_append : ∀ (a b : List Int), kr (a ++ b) = kr a + kr b
  | [], b => by simp [kr]
  | n :: a, b => by simp only [List.cons_append, kr, kr_append a b]; omega
theorem nz_append : ∀ (a b : List Int), nz (a ++ b) = nz a + nz b
  | [], b => by simp [nz]
  | n :: a, b => by simp only [List.cons_append, nz, nz_append a b]; omega
theorem last_snoc (a : List Int) (n : Int) : lastNz (a ++ [n]) = if 0 < n then n else lastNz a := by simp [lastNz, List.foldl_append]
theorem part1_bd (n : Int) : 0 ≤ part1 n ∧ part1 n ≤ 16384 := by
  unfold part1
  by_cases h : 0 < n
  · rw [if_pos h]
    have h1 := p2_pos (15 - n.toNat)
    have h2 : (2 : Int) ^ (15 - n.toNat) ≤ 2 ^ 14 := p2_le (by omega)
    rw [show (2 : Int) ^ 14 = 16384 by decide] at h2
    omega
  · rw [if_neg h]; omega
theorem kr_bd : ∀ (l : List Int), 0 ≤ kr l ∧ kr l ≤ 16384 * l.length
  | [] => by simp [kr]
  | n :: l => by
    have h1 := kr_bd l
    have h2 := part1_bd n
    simp only [kr, List.length_cons]
    omega
theorem nz_bd : ∀ (l : List Int), 0 ≤ nz l ∧ nz l ≤ l.length
  | [] => by simp [nz]
  | n :: l => by
    have h1 := nz_bd l
    simp only [nz, List.length_cons]
    split <;> omega
theorem last_bd (l : List Int) (h : Octets l) : 0 ≤ lastNz l ∧ lastNz l ≤ 255 := by
  have gen : ∀ (l : List Int) (f : Int), Octets l → (0 ≤ f ∧ f ≤ 255) → 0 ≤ l.foldl (fun f n => if 0 < n then n else f) f ∧ l.foldl (fun f n => if 0 < n then n else f) f ≤ 255 := by
    intro l
    induction l with
    | nil => exact fun f _ hf => hf
    | cons n l ih =>
      intro f hl hf
      refine ih _ (fun x hx => hl x (List.mem_cons_of_mem _ hx)) ?_
      have := hl n (List.mem_cons_self ..)
      by_cases hn : 0 < n <;> simp only [hn, if_true, if_false] <;> omega
  exact gen l 0 h (by omega)

/-- What the sum and the last length are where there are few. -/
def J (l : List Int) : Prop := (nz l = 0 → kr l = 0) ∧ (nz l = 1 → kr l = part1 (lastNz l) ∧ 0 < lastNz l)
theorem J_nil : J [] := ⟨fun _ => rfl, fun h => by simp [nz] at h⟩
theorem J_snoc {l : List Int} (h : J l) (n : Int) : J (l ++ [n]) := by
  have hz := nz_bd l
  unfold J at *
  rw [nz_append, kr_append, last_snoc]
  by_cases hn : 0 < n
  · simp only [nz, kr, hn, if_true]
    refine ⟨fun h0 => by omega, fun h1 => ?_⟩
    have h0 := h.1 (by omega)
    exact ⟨by omega, trivial⟩
  · have hp : part1 n = 0 := by unfold part1; rw [if_neg hn]
    simp only [nz, kr, hn, if_false, hp]
    simp only [Int.add_zero]
    exact h

theorem part1_one {f : Int} (h0 : 0 < f) (h : f ≤ 15) : part1 f = 16384 ↔ f = 1 := by
  unfold part1
  rw [if_pos h0]
  constructor
  · intro hp
    by_cases h1 : f = 1
    · exact h1
    · have h2 : (2 : Int) ^ (15 - f.toNat) ≤ 2 ^ 13 := p2_le (by omega)
      rw [show (2 : Int) ^ 13 = 8192 by decide] at h2
      omega
  · rintro rfl
    decide

/-- The program's way to say that lengths may be. -/
theorem may_first {l : List Int} (hj : J l) (hl : l.length ≤ 300) (ha : ∀ n ∈ l, n ≤ 15) (ho : Octets l) :
    mayB l = (decide (kr l = 32768) || (decide (nz l = 0) || (decide (nz l = 1) && decide (lastNz l = 1)))) := by
  have h1 : (l.all fun n => decide (n ≤ 15)) = true := List.all_eq_true.2 fun n hn => decide_eq_true (ha n hn)
  have h2 : (decide (nz l = 1) && decide (kr l = 16384)) = (decide (nz l = 1) && decide (lastNz l = 1)) := by
    by_cases hz : nz l = 1
    · obtain ⟨e, h0⟩ := hj.2 hz
      have hle : lastNz l ≤ 15 := by
        have gen : ∀ (l : List Int) (f : Int), (∀ n ∈ l, n ≤ 15) → f ≤ 15 → l.foldl (fun f n => if 0 < n then n else f) f ≤ 15 := by
          intro l
          induction l with
          | nil => exact fun f _ hf => hf
          | cons n l ih =>
            intro f hl hf
            refine ih _ (fun x hx => hl x (List.mem_cons_of_mem _ hx)) ?_
            have := hl n (List.mem_cons_self ..)
            by_cases hn : 0 < n <;> simp only [hn, if_true, if_false] <;> omega
        exact gen l 0 ha (by omega)
      have := part1_one h0 hle
      rw [e]
      simp only [hz, decide_true, Bool.true_and, decide_eq_decide]
      exact this
    · simp [hz]
  unfold mayB
  rw [h1, h2, decide_eq_true hl]
  rfl
theorem may_ref {l : List Int} (hl : l.length ≤ 300) (ha : ∀ n ∈ l, n ≤ 15) :
    mayB l = (decide (kr l = 32768) || (decide (nz l = 0) || (decide (nz l = 1) && decide (kr l = 16384)))) := by
  have h1 : (l.all fun n => decide (n ≤ 15)) = true := List.all_eq_true.2 fun n hn => decide_eq_true (ha n hn)
  unfold mayB
  rw [h1, decide_eq_true hl]
  rfl
theorem may_long {l : List Int} (hl : ¬ l.length ≤ 300) : mayB l = false := by unfold mayB; rw [decide_eq_false hl]; rfl
theorem may_great {l : List Int} {n : Int} (h : n ∈ l) (hn : 15 < n) : mayB l = false := by
  have : (l.all fun n => decide (n ≤ 15)) = false := by
    rw [List.all_eq_false]
    exact ⟨n, h, by simp; omega⟩
  unfold mayB
  rw [this]
  simp
end Go.Proofs.Ytnmdjlnhocbhlaa.Huf
