/-
  Layer 17, delta.Literal: a contract. Conditions: as each theorem names.
-/
import Derived.Test.YtlcnbepldkbkgaaMDlB
namespace Go.Proofs.Ytlcnbepldkbkgaa.Dl
open Go.ChangeShapes Go.WideShapes Go.ChangeAt Go.RowKit Go.Proofs.Ytlcnbepldkbkgaa.Kit Go.Proofs.Ytlcnbepldkbkgaa.Mx Go.Proofs.Ytlcnbepldkbkgaa.Sx

theorem literal_no (A : Option Addr) (xs : List Int) (c : Nat) (w : World) (hl : xs.length ≤ 1000000) (hn : xs.length < 1 ∨ 4096 < xs.length) :
    Calls Try.prog 11 #[.slice A xs.length c] w fun e w' => e = .returned (.slice none 0 0) ∧ w = w' := by
  by_cases h0 : xs.length < 1
  · have d0 : decide ((xs.length : Int) < 1) = true := decide_eq_true (by omega)
    have d1 : decide (xs.length < 1) = true := decide_eq_true h0
    go_enter Try.func11, Try.ntmps11
    go_wp2
    go_ret
    exact ⟨rfl, rfl⟩
  · have d0 : decide ((xs.length : Int) < 1) = false := decide_eq_false (by omega)
    have d1 : decide (xs.length < 1) = false := decide_eq_false h0
    have d2 : decide ((4096 : Int) < (xs.length : Int)) = true := decide_eq_true (by omega)
    have d3 : decide (4096 < xs.length) = true := decide_eq_true (by omega)
    go_enter Try.func11, Try.ntmps11
    go_wp2
    go_ret
    exact ⟨rfl, rfl⟩

set_option maxRecDepth 100000 in
set_option maxHeartbeats 6400000 in
theorem literal_yes (A : Option Addr) (xs : List Int) (c : Nat) (w : World) (h1 : 1 ≤ xs.length) (h2 : xs.length ≤ 4096) (hr : Holds w w.heap.size .u8 A xs) :
    Calls Try.prog 11 #[.slice A xs.length c] w fun e w' => ∃ (A3 : Option Addr) (c3 : Nat) (w3 : World), e = .returned (.slice (some ⟨w3.heap.size, 0, none⟩) 1 1) ∧ w' = w3.alloc (.cells #[.int .u8 1, .int .i64 0, .int .i64 xs.length, .slice A3 xs.length c3] 30) ∧
      Own w3 w.heap.size 5 .u8 (.slice A3 xs.length c3) xs ∧ xs.length ≤ c3 ∧ c3 ≤ maxLen ∧ Below w.heap.size w w3 := by
  have d0 : decide ((xs.length : Int) < 1) = false := decide_eq_false (by omega)
  have d1 : decide (xs.length < 1) = false := decide_eq_false (by omega)
  have d2 : decide ((4096 : Int) < (xs.length : Int)) = false := decide_eq_false (by omega)
  have d3 : decide (4096 < xs.length) = false := decide_eq_false (by omega)
  have HR := Lib.hid hr
  clear hr
  go_enter Try.func11, Try.ntmps11
  go_wp2_with (at_builtin; refine wpList_append_ints (xs := []) (ys := xs) (B := w.heap.size) _ rfl _ _ _ rfl elem8 (Own.nil _ _ _ _) rfl rfl HR.out (by simp; omega) (by simp) ?_; intro v3 w3 own3 hg3 hb3 hv3; rw [List.nil_append] at own3; obtain ⟨A3, c3, rfl, hcc, hcm, hh⟩ := own3.opened; have HO := Lib.hid own3; have HB := Lib.hid hb3; clear own3 hg3 hb3 hh)
  go_ret
  exact ⟨A3, c3, w3, rfl, rfl, HO.out, hcc, hcm, HB.out⟩
end Go.Proofs.Ytlcnbepldkbkgaa.Dl
