/-
  Layer 11, lz: whether it is a token: both functions, one answer. Conditions: as each theorem names.
-/
import Derived.Test.YthicgcgohpakgaaRows
import Derived.Test.YthicgcgohpakgaaMem
import Derived.LoopTactic
namespace Go.Proofs.Ythicgcgohpakgaa.Lz
open Go.ChangeShapes Go.WideShapes Go.ChangeAt Go.RowKit Go.Proofs.Ythicgcgohpakgaa.Kit

def mayB (a l d : Int) : Bool := if l = 0 then decide (d = 0) else decide (a = 0 ∧ 3 ≤ l ∧ l ≤ 258 ∧ 1 ≤ d ∧ d ≤ 32768)

def Gives (v : Value) (w : World) (e : Ending) (w' : World) : Prop := e = .returned v ∧ Below w.heap.size w w'

set_option maxHeartbeats 800000 in
theorem may_any (a l d : Int) (w : World) : Calls Try.prog 10 #[.agg #[.int .u8 a, .int .i64 l, .int .i64 d]] w (Gives (.bool (mayB a l d)) w) := by
  by_cases h0 : l = 0
  · subst h0
    by_cases hd : d = 0
    · subst hd
      go_enter Try.func10, Try.ntmps10
      go_wp2
      go_ret
      exact ⟨rfl, (Below.refl _ _).alloc (Nat.le_refl _) _⟩
    · have hv : mayB a 0 d = false := by unfold mayB; simp [hd]
      have h1 : (d == 0) = false := by simpa using hd
      rw [hv]
      clear hv hd
      go_enter Try.func10, Try.ntmps10
      go_wp2
      go_ret
      exact ⟨rfl, (Below.refl _ _).alloc (Nat.le_refl _) _⟩
  · have hl : (l == 0) = false := by simpa using h0
    have hv : mayB a l d = decide (a = 0 ∧ 3 ≤ l ∧ l ≤ 258 ∧ 1 ≤ d ∧ d ≤ 32768) := by unfold mayB; rw [if_neg h0]
    rw [hv]
    clear hv h0
    by_cases ha : a = 0
    · subst ha
      by_cases h1 : 3 ≤ l
      · by_cases h2 : l ≤ 258
        · by_cases h3 : 1 ≤ d
          · by_cases h4 : d ≤ 32768
            · rw [show decide ((0 : Int) = 0 ∧ 3 ≤ l ∧ l ≤ 258 ∧ 1 ≤ d ∧ d ≤ 32768) = true by simp; omega]
              go_enter Try.func10, Try.ntmps10
              go_wp2
              go_ret
              exact ⟨rfl, (Below.refl _ _).alloc (Nat.le_refl _) _⟩
            · rw [show decide ((0 : Int) = 0 ∧ 3 ≤ l ∧ l ≤ 258 ∧ 1 ≤ d ∧ d ≤ 32768) = false by simp; omega]
              go_enter Try.func10, Try.ntmps10
              go_wp2
              go_ret
              exact ⟨rfl, (Below.refl _ _).alloc (Nat.le_refl _) _⟩
          · rw [show decide ((0 : Int) = 0 ∧ 3 ≤ l ∧ l ≤ 258 ∧ 1 ≤ d ∧ d ≤ 32768) = false by simp; omega]
            go_enter Try.func10, Try.ntmps10
            go_wp2
            go_ret
            exact ⟨rfl, (Below.refl _ _).alloc (Nat.le_refl _) _⟩
        · rw [show decide ((0 : Int) = 0 ∧ 3 ≤ l ∧ l ≤ 258 ∧ 1 ≤ d ∧ d ≤ 32768) = false by simp; omega]
          go_enter Try.func10, Try.ntmps10
          go_wp2
          go_ret
          exact ⟨rfl, (Below.refl _ _).alloc (Nat.le_refl _) _⟩
      · rw [show decide ((0 : Int) = 0 ∧ 3 ≤ l ∧ l ≤ 258 ∧ 1 ≤ d ∧ d ≤ 32768) = false by simp; omega]
        go_enter Try.func10, Try.ntmps10
        go_wp2
        go_ret
        exact ⟨rfl, (Below.refl _ _).alloc (Nat.le_refl _) _⟩
    · have hb : (a == 0) = false := by simpa using ha
      rw [show decide (a = 0 ∧ 3 ≤ l ∧ l ≤ 258 ∧ 1 ≤ d ∧ d ≤ 32768) = false by simp; omega]
      clear ha
      go_enter Try.func10, Try.ntmps10
      go_wp2
      go_ret
      exact ⟨rfl, (Below.refl _ _).alloc (Nat.le_refl _) _⟩

set_option maxHeartbeats 800000 in
theorem rmay_any (a l d : Int) (w : World) : Calls Try.prog 11 #[.agg #[.int .u8 a, .int .i64 l, .int .i64 d]] w (Gives (.bool (mayB a l d)) w) := by
  by_cases h0 : l = 0
  · subst h0
    by_cases hd : d = 0
    · subst hd
      go_enter Try.func11, Try.ntmps11
      go_wp2
      go_ret
      exact ⟨rfl, (Below.refl _ _).alloc (Nat.le_refl _) _⟩
    · have hv : mayB a 0 d = false := by unfold mayB; simp [hd]
      have h1 : (d == 0) = false := by simpa using hd
      rw [hv]
      clear hv hd
      go_enter Try.func11, Try.ntmps11
      go_wp2
      go_ret
      exact ⟨rfl, (Below.refl _ _).alloc (Nat.le_refl _) _⟩
  · have hl : (l == 0) = false := by simpa using h0
    have hv : mayB a l d = decide (a = 0 ∧ 3 ≤ l ∧ l ≤ 258 ∧ 1 ≤ d ∧ d ≤ 32768) := by unfold mayB; rw [if_neg h0]
    rw [hv]
    clear hv h0
    by_cases ha : a = 0
    · subst ha
      by_cases h1 : 3 ≤ l
      · by_cases h2 : l ≤ 258
        · by_cases h3 : 1 ≤ d
          · by_cases h4 : d ≤ 32768
            · rw [show decide ((0 : Int) = 0 ∧ 3 ≤ l ∧ l ≤ 258 ∧ 1 ≤ d ∧ d ≤ 32768) = true by simp; omega]
              have q : decide (d < 32769) = true := by simp; omega
              go_enter Try.func11, Try.ntmps11
              go_wp2
              go_ret
              exact ⟨rfl, (Below.refl _ _).alloc (Nat.le_refl _) _⟩
            · rw [show decide ((0 : Int) = 0 ∧ 3 ≤ l ∧ l ≤ 258 ∧ 1 ≤ d ∧ d ≤ 32768) = false by simp; omega]
              have q : decide (d < 32769) = false := by simp; omega
              go_enter Try.func11, Try.ntmps11
              go_wp2
              go_ret
              exact ⟨rfl, (Below.refl _ _).alloc (Nat.le_refl _) _⟩
          · rw [show decide ((0 : Int) = 0 ∧ 3 ≤ l ∧ l ≤ 258 ∧ 1 ≤ d ∧ d ≤ 32768) = false by simp; omega]
            go_enter Try.func11, Try.ntmps11
            go_wp2
            go_ret
            exact ⟨rfl, (Below.refl _ _).alloc (Nat.le_refl _) _⟩
        · rw [show decide ((0 : Int) = 0 ∧ 3 ≤ l ∧ l ≤ 258 ∧ 1 ≤ d ∧ d ≤ 32768) = false by simp; omega]
          go_enter Try.func11, Try.ntmps11
          go_wp2
          go_ret
          exact ⟨rfl, (Below.refl _ _).alloc (Nat.le_refl _) _⟩
      · rw [show decide ((0 : Int) = 0 ∧ 3 ≤ l ∧ l ≤ 258 ∧ 1 ≤ d ∧ d ≤ 32768) = false by simp; omega]
        go_enter Try.func11, Try.ntmps11
        go_wp2
        go_ret
        exact ⟨rfl, (Below.refl _ _).alloc (Nat.le_refl _) _⟩
    · have hb : (a == 0) = false := by simpa using ha
      rw [show decide (a = 0 ∧ 3 ≤ l ∧ l ≤ 258 ∧ 1 ≤ d ∧ d ≤ 32768) = false by simp; omega]
      clear ha
      go_enter Try.func11, Try.ntmps11
      go_wp2
      go_ret
      exact ⟨rfl, (Below.refl _ _).alloc (Nat.le_refl _) _⟩
end Go.Proofs.Ythicgcgohpakgaa.Lz
