/-
  Layer 16, plan: whether a step is right: both functions, one answer. Conditions: as each theorem names.
-/
import Derived.Test.YtheofegmbajmkaaRows
import Derived.Test.YtheofegmbajmkaaMem
import Derived.Test.YtheofegmbajmkaaRec3
import Derived.LoopTactic
namespace Go.Proofs.Ytheofegmbajmkaa.Pl
open Go.ChangeShapes Go.WideShapes Go.ChangeAt Go.RowKit Go.Proofs.Ytheofegmbajmkaa.Kit

def Gives (v : Value) (w : World) (e : Ending) (w' : World) : Prop := e = .returned v ∧ Below w.heap.size w w'

/-- A step of kind a, from b, of x bytes, with n bytes of data. -/
def rightB (a b x : Int) (n : Nat) : Bool := decide ((1 ≤ x ∧ x ≤ 4096) ∧ ((a = 1 ∧ b = 0 ∧ (n : Int) = x) ∨ (a = 2 ∧ (0 ≤ b ∧ b ≤ 2147483647) ∧ n = 0) ∨ (a = 3 ∧ (0 ≤ b ∧ b ≤ 2147483647) ∧ (n : Int) = x)))

set_option maxHeartbeats 1600000 in
theorem right_any (a b x : Int) (A : Option Addr) (n c : Nat) (w : World) : Calls Try.prog 28 #[.agg #[.int .u8 a, .int .i64 b, .int .i64 x, .slice A n c]] w (Gives (.bool (rightB a b x n)) w) := by
  by_cases g1 : x < 1
  · rw [show rightB _ _ _ _ = false from decide_eq_false (by omega)]
    go_enter Try.func28, Try.ntmps28
    go_wp2
    go_ret
    exact ⟨rfl, (Below.refl _ _).alloc (Nat.le_refl _) _⟩
  · by_cases g2 : 4096 < x
    · rw [show rightB _ _ _ _ = false from decide_eq_false (by omega)]
      go_enter Try.func28, Try.ntmps28
      go_wp2
      go_ret
      exact ⟨rfl, (Below.refl _ _).alloc (Nat.le_refl _) _⟩
    · by_cases g3 : 0 ≤ b
      · by_cases g4 : b ≤ 2147483647
        · by_cases h1 : a = 1
          · subst h1
            by_cases hb : b = 0
            · have hbb : (b == 0) = true := by rw [beq_iff_eq]; omega
              by_cases hl : (n : Int) = x
              · have hlb : ((n : Int) == x) = true := by rw [beq_iff_eq]; omega
                rw [show rightB _ _ _ _ = true from decide_eq_true (by omega)]
                go_enter Try.func28, Try.ntmps28
                go_wp2
                go_ret
                exact ⟨rfl, (Below.refl _ _).alloc (Nat.le_refl _) _⟩
              · have hlb : ((n : Int) == x) = false := by rw [beq_eq_false_iff_ne]; omega
                rw [show rightB _ _ _ _ = false from decide_eq_false (by omega)]
                go_enter Try.func28, Try.ntmps28
                go_wp2
                go_ret
                exact ⟨rfl, (Below.refl _ _).alloc (Nat.le_refl _) _⟩
            · have hbb : (b == 0) = false := by rw [beq_eq_false_iff_ne]; omega
              rw [show rightB _ _ _ _ = false from decide_eq_false (by omega)]
              go_enter Try.func28, Try.ntmps28
              go_wp2
              go_ret
              exact ⟨rfl, (Below.refl _ _).alloc (Nat.le_refl _) _⟩
          · have h1b : (a == 1) = false := by rw [beq_eq_false_iff_ne]; omega
            by_cases h2 : a = 2
            · subst h2
              by_cases hl : n = 0
              · subst hl
                rw [show rightB _ _ _ _ = true from decide_eq_true (by omega)]
                go_enter Try.func28, Try.ntmps28
                go_wp2
                go_ret
                exact ⟨rfl, (Below.refl _ _).alloc (Nat.le_refl _) _⟩
              · have hlb : ((n : Int) == 0) = false := by rw [beq_eq_false_iff_ne]; omega
                rw [show rightB _ _ _ _ = false from decide_eq_false (by omega)]
                go_enter Try.func28, Try.ntmps28
                go_wp2
                go_ret
                exact ⟨rfl, (Below.refl _ _).alloc (Nat.le_refl _) _⟩
            · have h2b : (a == 2) = false := by rw [beq_eq_false_iff_ne]; omega
              by_cases h3 : a = 3
              · subst h3
                by_cases hl : (n : Int) = x
                · have hlb : ((n : Int) == x) = true := by rw [beq_iff_eq]; omega
                  rw [show rightB _ _ _ _ = true from decide_eq_true (by omega)]
                  go_enter Try.func28, Try.ntmps28
                  go_wp2
                  go_ret
                  exact ⟨rfl, (Below.refl _ _).alloc (Nat.le_refl _) _⟩
                · have hlb : ((n : Int) == x) = false := by rw [beq_eq_false_iff_ne]; omega
                  rw [show rightB _ _ _ _ = false from decide_eq_false (by omega)]
                  go_enter Try.func28, Try.ntmps28
                  go_wp2
                  go_ret
                  exact ⟨rfl, (Below.refl _ _).alloc (Nat.le_refl _) _⟩
              · have h3b : (a == 3) = false := by rw [beq_eq_false_iff_ne]; omega
                rw [show rightB _ _ _ _ = false from decide_eq_false (by omega)]
                go_enter Try.func28, Try.ntmps28
                go_wp2
                go_ret
                exact ⟨rfl, (Below.refl _ _).alloc (Nat.le_refl _) _⟩
        · by_cases h1 : a = 1
          · subst h1
            have hbb : (b == 0) = false := by rw [beq_eq_false_iff_ne]; omega
            rw [show rightB _ _ _ _ = false from decide_eq_false (by omega)]
            go_enter Try.func28, Try.ntmps28
            go_wp2
            go_ret
            exact ⟨rfl, (Below.refl _ _).alloc (Nat.le_refl _) _⟩
          · have h1b : (a == 1) = false := by rw [beq_eq_false_iff_ne]; omega
            by_cases h2 : a = 2
            · subst h2
              rw [show rightB _ _ _ _ = false from decide_eq_false (by omega)]
              go_enter Try.func28, Try.ntmps28
              go_wp2
              go_ret
              exact ⟨rfl, (Below.refl _ _).alloc (Nat.le_refl _) _⟩
            · have h2b : (a == 2) = false := by rw [beq_eq_false_iff_ne]; omega
              by_cases h3 : a = 3
              · subst h3
                rw [show rightB _ _ _ _ = false from decide_eq_false (by omega)]
                go_enter Try.func28, Try.ntmps28
                go_wp2
                go_ret
                exact ⟨rfl, (Below.refl _ _).alloc (Nat.le_refl _) _⟩
              · have h3b : (a == 3) = false := by rw [beq_eq_false_iff_ne]; omega
                rw [show rightB _ _ _ _ = false from decide_eq_false (by omega)]
                go_enter Try.func28, Try.ntmps28
                go_wp2
                go_ret
                exact ⟨rfl, (Below.refl _ _).alloc (Nat.le_refl _) _⟩
      · by_cases h1 : a = 1
        · subst h1
          have hbb : (b == 0) = false := by rw [beq_eq_false_iff_ne]; omega
          rw [show rightB _ _ _ _ = false from decide_eq_false (by omega)]
          go_enter Try.func28, Try.ntmps28
          go_wp2
          go_ret
          exact ⟨rfl, (Below.refl _ _).alloc (Nat.le_refl _) _⟩
        · have h1b : (a == 1) = false := by rw [beq_eq_false_iff_ne]; omega
          by_cases h2 : a = 2
          · subst h2
            rw [show rightB _ _ _ _ = false from decide_eq_false (by omega)]
            go_enter Try.func28, Try.ntmps28
            go_wp2
            go_ret
            exact ⟨rfl, (Below.refl _ _).alloc (Nat.le_refl _) _⟩
          · have h2b : (a == 2) = false := by rw [beq_eq_false_iff_ne]; omega
            by_cases h3 : a = 3
            · subst h3
              rw [show rightB _ _ _ _ = false from decide_eq_false (by omega)]
              go_enter Try.func28, Try.ntmps28
              go_wp2
              go_ret
              exact ⟨rfl, (Below.refl _ _).alloc (Nat.le_refl _) _⟩
            · have h3b : (a == 3) = false := by rw [beq_eq_false_iff_ne]; omega
              rw [show rightB _ _ _ _ = false from decide_eq_false (by omega)]
              go_enter Try.func28, Try.ntmps28
              go_wp2
              go_ret
              exact ⟨rfl, (Below.refl _ _).alloc (Nat.le_refl _) _⟩

set_option maxHeartbeats 1600000 in
theorem rright_any (a b x : Int) (A : Option Addr) (n c : Nat) (w : World) : Calls Try.prog 24 #[.agg #[.int .u8 a, .int .i64 b, .int .i64 x, .slice A n c]] w (Gives (.bool (rightB a b x n)) w) := by
  by_cases g1 : x < 1
  · rw [show rightB _ _ _ _ = false from decide_eq_false (by omega)]
    go_enter Try.func24, Try.ntmps24
    go_wp2
    go_ret
    exact ⟨rfl, (Below.refl _ _).alloc (Nat.le_refl _) _⟩
  · by_cases g2 : 4096 < x
    · rw [show rightB _ _ _ _ = false from decide_eq_false (by omega)]
      go_enter Try.func24, Try.ntmps24
      go_wp2
      go_ret
      exact ⟨rfl, (Below.refl _ _).alloc (Nat.le_refl _) _⟩
    · by_cases g3 : 0 ≤ b
      · by_cases g4 : b ≤ 2147483647
        · by_cases h1 : a = 1
          · subst h1
            by_cases hb : b = 0
            · have hbb : (b == 0) = true := by rw [beq_iff_eq]; omega
              by_cases hl : (n : Int) = x
              · have hlb : ((n : Int) == x) = true := by rw [beq_iff_eq]; omega
                rw [show rightB _ _ _ _ = true from decide_eq_true (by omega)]
                go_enter Try.func24, Try.ntmps24
                go_wp2
                go_ret
                exact ⟨rfl, (Below.refl _ _).alloc (Nat.le_refl _) _⟩
              · have hlb : ((n : Int) == x) = false := by rw [beq_eq_false_iff_ne]; omega
                rw [show rightB _ _ _ _ = false from decide_eq_false (by omega)]
                go_enter Try.func24, Try.ntmps24
                go_wp2
                go_ret
                exact ⟨rfl, (Below.refl _ _).alloc (Nat.le_refl _) _⟩
            · have hbb : (b == 0) = false := by rw [beq_eq_false_iff_ne]; omega
              rw [show rightB _ _ _ _ = false from decide_eq_false (by omega)]
              go_enter Try.func24, Try.ntmps24
              go_wp2
              go_ret
              exact ⟨rfl, (Below.refl _ _).alloc (Nat.le_refl _) _⟩
          · have h1b : (a == 1) = false := by rw [beq_eq_false_iff_ne]; omega
            by_cases h2 : a = 2
            · subst h2
              by_cases hl : n = 0
              · subst hl
                rw [show rightB _ _ _ _ = true from decide_eq_true (by omega)]
                go_enter Try.func24, Try.ntmps24
                go_wp2
                go_ret
                exact ⟨rfl, (Below.refl _ _).alloc (Nat.le_refl _) _⟩
              · have hlb : ((n : Int) == 0) = false := by rw [beq_eq_false_iff_ne]; omega
                rw [show rightB _ _ _ _ = false from decide_eq_false (by omega)]
                go_enter Try.func24, Try.ntmps24
                go_wp2
                go_ret
                exact ⟨rfl, (Below.refl _ _).alloc (Nat.le_refl _) _⟩
            · have h2b : (a == 2) = false := by rw [beq_eq_false_iff_ne]; omega
              by_cases h3 : a = 3
              · subst h3
                by_cases hl : (n : Int) = x
                · have hlb : ((n : Int) == x) = true := by rw [beq_iff_eq]; omega
                  rw [show rightB _ _ _ _ = true from decide_eq_true (by omega)]
                  go_enter Try.func24, Try.ntmps24
                  go_wp2
                  go_ret
                  exact ⟨rfl, (Below.refl _ _).alloc (Nat.le_refl _) _⟩
                · have hlb : ((n : Int) == x) = false := by rw [beq_eq_false_iff_ne]; omega
                  rw [show rightB _ _ _ _ = false from decide_eq_false (by omega)]
                  go_enter Try.func24, Try.ntmps24
                  go_wp2
                  go_ret
                  exact ⟨rfl, (Below.refl _ _).alloc (Nat.le_refl _) _⟩
              · have h3b : (a == 3) = false := by rw [beq_eq_false_iff_ne]; omega
                rw [show rightB _ _ _ _ = false from decide_eq_false (by omega)]
                go_enter Try.func24, Try.ntmps24
                go_wp2
                go_ret
                exact ⟨rfl, (Below.refl _ _).alloc (Nat.le_refl _) _⟩
        · by_cases h1 : a = 1
          · subst h1
            have hbb : (b == 0) = false := by rw [beq_eq_false_iff_ne]; omega
            rw [show rightB _ _ _ _ = false from decide_eq_false (by omega)]
            go_enter Try.func24, Try.ntmps24
            go_wp2
            go_ret
            exact ⟨rfl, (Below.refl _ _).alloc (Nat.le_refl _) _⟩
          · have h1b : (a == 1) = false := by rw [beq_eq_false_iff_ne]; omega
            by_cases h2 : a = 2
            · subst h2
              rw [show rightB _ _ _ _ = false from decide_eq_false (by omega)]
              go_enter Try.func24, Try.ntmps24
              go_wp2
              go_ret
              exact ⟨rfl, (Below.refl _ _).alloc (Nat.le_refl _) _⟩
            · have h2b : (a == 2) = false := by rw [beq_eq_false_iff_ne]; omega
              by_cases h3 : a = 3
              · subst h3
                rw [show rightB _ _ _ _ = false from decide_eq_false (by omega)]
                go_enter Try.func24, Try.ntmps24
                go_wp2
                go_ret
                exact ⟨rfl, (Below.refl _ _).alloc (Nat.le_refl _) _⟩
              · have h3b : (a == 3) = false := by rw [beq_eq_false_iff_ne]; omega
                rw [show rightB _ _ _ _ = false from decide_eq_false (by omega)]
                go_enter Try.func24, Try.ntmps24
                go_wp2
                go_ret
                exact ⟨rfl, (Below.refl _ _).alloc (Nat.le_refl _) _⟩
      · by_cases h1 : a = 1
        · subst h1
          have hbb : (b == 0) = false := by rw [beq_eq_false_iff_ne]; omega
          rw [show rightB _ _ _ _ = false from decide_eq_false (by omega)]
          go_enter Try.func24, Try.ntmps24
          go_wp2
          go_ret
          exact ⟨rfl, (Below.refl _ _).alloc (Nat.le_refl _) _⟩
        · have h1b : (a == 1) = false := by rw [beq_eq_false_iff_ne]; omega
          by_cases h2 : a = 2
          · subst h2
            rw [show rightB _ _ _ _ = false from decide_eq_false (by omega)]
            go_enter Try.func24, Try.ntmps24
            go_wp2
            go_ret
            exact ⟨rfl, (Below.refl _ _).alloc (Nat.le_refl _) _⟩
          · have h2b : (a == 2) = false := by rw [beq_eq_false_iff_ne]; omega
            by_cases h3 : a = 3
            · subst h3
              rw [show rightB _ _ _ _ = false from decide_eq_false (by omega)]
              go_enter Try.func24, Try.ntmps24
              go_wp2
              go_ret
              exact ⟨rfl, (Below.refl _ _).alloc (Nat.le_refl _) _⟩
            · have h3b : (a == 3) = false := by rw [beq_eq_false_iff_ne]; omega
              rw [show rightB _ _ _ _ = false from decide_eq_false (by omega)]
              go_enter Try.func24, Try.ntmps24
              go_wp2
              go_ret
              exact ⟨rfl, (Below.refl _ _).alloc (Nat.le_refl _) _⟩

end Go.Proofs.Ytheofegmbajmkaa.Pl
