/-
  Layer 30, the line of an act: plain words, and the contracts of its first word and of its letters. Conditions: as each theorem names.
-/
import Derived.Test.YtngeemfcmoahoaaTzA
import Derived.Test.YtngeemfcmoahoaaTyE
namespace Go.Proofs.Ytngeemfcmoahoaa.Tz
open Go.Proofs
open Go.ChangeShapes Go.WideShapes Go.ChangeAt Go.RowKit Go.Proofs.Ytngeemfcmoahoaa.Kit Go.Proofs.Ytngeemfcmoahoaa.Tx Go.Proofs.Ytngeemfcmoahoaa.Ty

/-- An act's first word; none. -/
def wordP (k : Int) : List Int :=
  if k = 1 then [98, 117, 105, 108, 100] else if k = 2 then [102, 101, 101, 100] else if k = 3 then [98, 101, 103, 105, 110] else if k = 4 then [99, 111, 109, 109, 105, 116] else if k = 5 then [99, 97, 110, 99, 101, 108] else if k = 6 then [102, 117, 115, 101] else if k = 7 then [102, 97, 108, 108] else if k = 8 then [115, 112, 111, 105, 108] else if k = 9 then [105, 109, 97, 103, 101] else if k = 10 then [115, 116, 97, 116, 117, 115] else []
/-- What its line tells, a letter each. -/
def lettersP (k : Int) : List Int :=
  if k = 1 then [77, 86, 84] else if k = 2 then [80, 78] else if k = 6 then [78] else if k = 7 then [84] else if k = 8 then [80, 78, 77] else []
/-- What a letter tells of an act. -/
def textA (a : ActV) (f : Int) : List Int := if f = 77 then decL a.m.toNat else if f = 86 then decL a.v.toNat else if f = 84 then hexL a.d else if f = 80 then decL a.p.toNat else decL a.n.toNat
/-- The act without that. -/
def clearA (a : ActV) (f : Int) : ActV := if f = 77 then { a with m := 0 } else if f = 86 then { a with v := 0 } else if f = 84 then { a with d := [] } else if f = 80 then { a with p := 0 } else { a with n := 0 }
def stepP (x : List Int × ActV) (f : Int) : List Int × ActV := (x.1 ++ 32 :: textA x.2 f, clearA x.2 f)
def sumP (a : ActV) : List Int × ActV := (lettersP a.k).foldl stepP (wordP a.k, a)
def bareA (a : ActV) : Bool := decide (a.m = 0) && decide (a.v = 0) && decide (a.d.length = 0) && decide (a.p = 0) && decide (a.n = 0)
def inA (a : ActV) : Bool := decide (0 ≤ a.p) && decide (a.p ≤ 2147483647) && decide (0 ≤ a.n) && decide (a.n ≤ 2147483647) && decide (a.v ≤ 2147483647)
/-- An act's line; none. -/
def lineP (a : ActV) : Option (List Int) := if wordP a.k = [] ∨ inA a = false then none else if bareA (sumP a).2 = true then some (sumP a).1 else none
theorem letters_mem (k : Int) : ∀ f ∈ lettersP k, f = 77 ∨ f = 86 ∨ f = 84 ∨ f = 80 ∨ f = 78 := by
  intro f hf
  unfold lettersP at hf
  repeat' split at hf
  all_goals simp at hf
  all_goals omega
theorem letters_length (k : Int) : (lettersP k).length ≤ 3 := by
  unfold lettersP
  repeat' split
  all_goals decide
theorem letters_octets (k : Int) : Octets (lettersP k) := by
  intro f hf
  have := letters_mem k f hf
  omega
theorem word_length (k : Int) : (wordP k).length ≤ 6 := by
  unfold wordP
  repeat' split
  all_goals decide
theorem word_octets (k : Int) : Octets (wordP k) := by
  unfold wordP
  repeat' split
  all_goals (unfold Octets; decide)

set_option maxRecDepth 100000 in
set_option maxHeartbeats 6400000 in
theorem word_any (k : Int) (w : World) : Calls Try.prog 45 #[.int .u8 k] w fun e w' => e = .returned (.string (strOfNums (wordP k))) ∧ w' = w := by
  by_cases h1 : k = 1
  · subst h1
    go_enter Try.func45, Try.ntmps45
    go_wp2
    go_ret
    exact ⟨rfl, rfl⟩
  by_cases h2 : k = 2
  · subst h2
    go_enter Try.func45, Try.ntmps45
    go_wp2
    go_ret
    exact ⟨rfl, rfl⟩
  by_cases h3 : k = 3
  · subst h3
    go_enter Try.func45, Try.ntmps45
    go_wp2
    go_ret
    exact ⟨rfl, rfl⟩
  by_cases h4 : k = 4
  · subst h4
    go_enter Try.func45, Try.ntmps45
    go_wp2
    go_ret
    exact ⟨rfl, rfl⟩
  by_cases h5 : k = 5
  · subst h5
    go_enter Try.func45, Try.ntmps45
    go_wp2
    go_ret
    exact ⟨rfl, rfl⟩
  by_cases h6 : k = 6
  · subst h6
    go_enter Try.func45, Try.ntmps45
    go_wp2
    go_ret
    exact ⟨rfl, rfl⟩
  by_cases h7 : k = 7
  · subst h7
    go_enter Try.func45, Try.ntmps45
    go_wp2
    go_ret
    exact ⟨rfl, rfl⟩
  by_cases h8 : k = 8
  · subst h8
    go_enter Try.func45, Try.ntmps45
    go_wp2
    go_ret
    exact ⟨rfl, rfl⟩
  by_cases h9 : k = 9
  · subst h9
    go_enter Try.func45, Try.ntmps45
    go_wp2
    go_ret
    exact ⟨rfl, rfl⟩
  by_cases h10 : k = 10
  · subst h10
    go_enter Try.func45, Try.ntmps45
    go_wp2
    go_ret
    exact ⟨rfl, rfl⟩
  have d1 : (k == 1) = false := by rw [beq_eq_false_iff_ne]; exact h1
  have d2 : (k == 2) = false := by rw [beq_eq_false_iff_ne]; exact h2
  have d3 : (k == 3) = false := by rw [beq_eq_false_iff_ne]; exact h3
  have d4 : (k == 4) = false := by rw [beq_eq_false_iff_ne]; exact h4
  have d5 : (k == 5) = false := by rw [beq_eq_false_iff_ne]; exact h5
  have d6 : (k == 6) = false := by rw [beq_eq_false_iff_ne]; exact h6
  have d7 : (k == 7) = false := by rw [beq_eq_false_iff_ne]; exact h7
  have d8 : (k == 8) = false := by rw [beq_eq_false_iff_ne]; exact h8
  have d9 : (k == 9) = false := by rw [beq_eq_false_iff_ne]; exact h9
  have d10 : (k == 10) = false := by rw [beq_eq_false_iff_ne]; exact h10
  have hp : wordP k = [] := by unfold wordP; simp only [h1, h2, h3, h4, h5, h6, h7, h8, h9, h10, if_false]
  rw [hp]
  clear hp
  go_enter Try.func45, Try.ntmps45
  go_wp2
  go_ret
  exact ⟨rfl, rfl⟩
set_option maxRecDepth 100000 in
set_option maxHeartbeats 6400000 in
theorem letters_any (k : Int) (w : World) : Calls Try.prog 41 #[.int .u8 k] w fun e w' => e = .returned (.string (strOfNums (lettersP k))) ∧ w' = w := by
  by_cases h1 : k = 1
  · subst h1
    go_enter Try.func41, Try.ntmps41
    go_wp2
    go_ret
    exact ⟨rfl, rfl⟩
  by_cases h2 : k = 2
  · subst h2
    go_enter Try.func41, Try.ntmps41
    go_wp2
    go_ret
    exact ⟨rfl, rfl⟩
  by_cases h8 : k = 8
  · subst h8
    go_enter Try.func41, Try.ntmps41
    go_wp2
    go_ret
    exact ⟨rfl, rfl⟩
  by_cases h6 : k = 6
  · subst h6
    go_enter Try.func41, Try.ntmps41
    go_wp2
    go_ret
    exact ⟨rfl, rfl⟩
  by_cases h7 : k = 7
  · subst h7
    go_enter Try.func41, Try.ntmps41
    go_wp2
    go_ret
    exact ⟨rfl, rfl⟩
  have d1 : (k == 1) = false := by rw [beq_eq_false_iff_ne]; exact h1
  have d2 : (k == 2) = false := by rw [beq_eq_false_iff_ne]; exact h2
  have d8 : (k == 8) = false := by rw [beq_eq_false_iff_ne]; exact h8
  have d6 : (k == 6) = false := by rw [beq_eq_false_iff_ne]; exact h6
  have d7 : (k == 7) = false := by rw [beq_eq_false_iff_ne]; exact h7
  have hp : lettersP k = [] := by unfold lettersP; simp only [h1, h2, h8, h6, h7, if_false]
  rw [hp]
  clear hp
  go_enter Try.func41, Try.ntmps41
  go_wp2
  go_ret
  exact ⟨rfl, rfl⟩
end Go.Proofs.Ytngeemfcmoahoaa.Tz
