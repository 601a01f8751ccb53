/-
  Layer 2, octet: contracts of the digits' functions. Conditions: as each theorem names.
-/
import Derived.Test.YtdfgdchmeikigaaDoorOct
import Derived.Deep.QuietTactic
import Derived.BigQuiet
namespace Go.Proofs.YtdfgdchmeikigaaDoor.Oct
open Go.ChangeShapes Go.WideShapes Go.ChangeAt Go.RowKit Go.Proofs.YtdfgdchmeikigaaDoor.Kit

theorem isw_yes (w : Int) (W : World) (hw : w = 1 ∨ w = 2 ∨ w = 4 ∨ w = 8) : Calls Tryd.prog 95 #[.int .i64 w] W fun e W' => e = .returned (.bool true) ∧ W = W' := by
  rcases hw with rfl | rfl | rfl | rfl
  all_goals
    go_enter Tryd.func95, Tryd.ntmps95
    go_wp2
    go_ret
    exact ⟨rfl, rfl⟩

theorem isw_no (w : Int) (W : World) (hw : ¬ (w = 1 ∨ w = 2 ∨ w = 4 ∨ w = 8)) : Calls Tryd.prog 95 #[.int .i64 w] W fun e W' => e = .returned (.bool false) ∧ W = W' := by
  have h1 : (w == 1) = false := by simp; omega
  have h2 : (w == 2) = false := by simp; omega
  have h3 : (w == 4) = false := by simp; omega
  have h4 : (w == 8) = false := by simp; omega
  clear hw
  go_enter Tryd.func95, Tryd.ntmps95
  go_wp2
  go_ret
  exact ⟨rfl, rfl⟩

theorem digit_any (A : Option Addr) (xs : List Int) (c i w B : Nat) (W : World) (hn : xs.length ≤ 1000000) (hw : w = 1 ∨ w = 2 ∨ w = 4 ∨ w = 8) (hi : i / (8 / w) < xs.length)
    (ho : Octets xs) (hr : Holds W B .u8 A xs) :
    Calls Tryd.prog 96 #[.slice A xs.length c, .int .i64 i, .int .i64 w] W fun e W' => e = .returned (.int .i64 (dg xs w i)) ∧ ∃ n, W' = W.drewN n := by
  obtain ⟨b, off, rfl, hb, hc⟩ := hr (Nat.lt_of_le_of_lt (Nat.zero_le _) hi)
  have hcell := hc _ hi
  have hx := ho.at_ (i / (8 / w))
  have hd : dg xs w i = xs[i / (8 / w)]?.getD 0 / (2 : Int) ^ (w * (8 / w - 1 - i % (8 / w))) % (2 : Int) ^ w := rfl
  rw [show xs.getD (i / (8 / w)) 0 = xs[i / (8 / w)]?.getD 0 by simp [List.getD]] at hcell
  generalize xs[i / (8 / w)]?.getD 0 = x at *
  rw [hd]
  clear hc hd
  generalize xs.length = N at *
  have h0 : ¬ (i : Int) < 0 := by omega
  rcases hw with rfl | rfl | rfl | rfl
  · simp only [show 8 / 1 = 8 by rfl] at hcell hx hi
    have h1 : ¬ (N : Int) ≤ (i : Int) / 8 := by omega
    go_enter Tryd.func96, Tryd.ntmps96
    go_wp2_with (go_at_call 95; refine (isw_yes _ _ (by omega)).mono ?_; rintro e w' ⟨rfl, rfl⟩)
    go_quiet (fail)
    go_wp2
    go_ret
    exact ⟨by rw [mask1 _ _ hx]; simp, _, rfl⟩
  · simp only [show 8 / 2 = 4 by rfl] at hcell hx hi
    have h1 : ¬ (N : Int) ≤ (i : Int) / 4 := by omega
    go_enter Tryd.func96, Tryd.ntmps96
    go_wp2_with (go_at_call 95; refine (isw_yes _ _ (by omega)).mono ?_; rintro e w' ⟨rfl, rfl⟩)
    go_quiet (fail)
    go_wp2
    go_ret
    exact ⟨by rw [mask2 _ _ hx]; simp, _, rfl⟩
  · simp only [show 8 / 4 = 2 by rfl] at hcell hx hi
    have h1 : ¬ (N : Int) ≤ (i : Int) / 2 := by omega
    go_enter Tryd.func96, Tryd.ntmps96
    go_wp2_with (go_at_call 95; refine (isw_yes _ _ (by omega)).mono ?_; rintro e w' ⟨rfl, rfl⟩)
    go_quiet (fail)
    go_wp2
    go_ret
    exact ⟨by rw [mask4 _ _ hx]; simp, _, rfl⟩
  · simp only [show 8 / 8 = 1 by rfl, Nat.div_one] at hcell hx hi
    have h1 : ¬ (N : Int) ≤ (i : Int) := by omega
    have h2 : (i : Int) ≤ 9223372036854775807 := by omega
    go_enter Tryd.func96, Tryd.ntmps96
    go_wp2_with (go_at_call 95; refine (isw_yes _ _ (by omega)).mono ?_; rintro e w' ⟨rfl, rfl⟩)
    go_quiet (fail)
    go_wp2
    go_ret
    exact ⟨by rw [mask8 _ hx]; simp; omega, _, rfl⟩

/-- The same, the width an integer as the caller has it. -/
theorem digit_at (A : Option Addr) (xs : List Int) (c i B : Nat) (w : Int) (W : World) (hn : xs.length ≤ 1000000) (hw : w = 1 ∨ w = 2 ∨ w = 4 ∨ w = 8) (hi : i < xs.length * (8 / w.toNat))
    (ho : Octets xs) (hr : Holds W B .u8 A xs) :
    Calls Tryd.prog 96 #[.slice A xs.length c, .int .i64 i, .int .i64 w] W fun e W' => e = .returned (.int .i64 (dg xs w.toNat i)) ∧ ∃ n, W' = W.drewN n := by
  rcases hw with rfl | rfl | rfl | rfl
  · exact digit_any A xs c i 1 B W hn (by omega) (Nat.div_lt_of_lt_mul (by rw [Nat.mul_comm]; exact hi)) ho hr
  · exact digit_any A xs c i 2 B W hn (by omega) (Nat.div_lt_of_lt_mul (by rw [Nat.mul_comm]; exact hi)) ho hr
  · exact digit_any A xs c i 4 B W hn (by omega) (Nat.div_lt_of_lt_mul (by rw [Nat.mul_comm]; exact hi)) ho hr
  · exact digit_any A xs c i 8 B W hn (by omega) (Nat.div_lt_of_lt_mul (by rw [Nat.mul_comm]; exact hi)) ho hr

/-- Digit where there is none. -/
theorem digit_out (A : Option Addr) (n c : Nat) (i w : Int) (W : World) (hn : n ≤ 1000000) (hi : -9223372036854775808 ≤ i ∧ i ≤ 9223372036854775807)
    (h : ¬ (w = 1 ∨ w = 2 ∨ w = 4 ∨ w = 8) ∨ ((w = 1 ∨ w = 2 ∨ w = 4 ∨ w = 8) ∧ (i < 0 ∨ (n : Int) * (8 / w) ≤ i))) :
    Calls Tryd.prog 96 #[.slice A n c, .int .i64 i, .int .i64 w] W fun e W' => e = .returned (.int .i64 0) ∧ W = W' := by
  rcases h with h | ⟨hw, h⟩
  · have H := Lib.hid h
    clear h
    go_enter Tryd.func96, Tryd.ntmps96
    go_wp2_with (go_at_call 95; refine (isw_no _ _ H.out).mono ?_; rintro e w' ⟨rfl, rfl⟩)
    go_ret
    exact ⟨rfl, rfl⟩
  · by_cases h0 : i < 0
    · clear h
      have H := Lib.hid hw
      clear hw
      go_enter Tryd.func96, Tryd.ntmps96
      go_wp2_with (go_at_call 95; refine (isw_yes _ _ H.out).mono ?_; rintro e w' ⟨rfl, rfl⟩)
      go_ret
      exact ⟨rfl, rfl⟩
    · have h : (n : Int) * (8 / w) ≤ i := by omega
      have h0' : 0 ≤ i := by omega
      rcases hw with rfl | rfl | rfl | rfl
      · have h1 : (n : Int) ≤ i / 8 := by omega
        clear h
        go_enter Tryd.func96, Tryd.ntmps96
        go_wp2_with (go_at_call 95; refine (isw_yes _ _ (by omega)).mono ?_; rintro e w' ⟨rfl, rfl⟩)
        go_ret
        exact ⟨rfl, rfl⟩
      · have h1 : (n : Int) ≤ i / 4 := by omega
        clear h
        go_enter Tryd.func96, Tryd.ntmps96
        go_wp2_with (go_at_call 95; refine (isw_yes _ _ (by omega)).mono ?_; rintro e w' ⟨rfl, rfl⟩)
        go_ret
        exact ⟨rfl, rfl⟩
      · have h1 : (n : Int) ≤ i / 2 := by omega
        clear h
        go_enter Tryd.func96, Tryd.ntmps96
        go_wp2_with (go_at_call 95; refine (isw_yes _ _ (by omega)).mono ?_; rintro e w' ⟨rfl, rfl⟩)
        go_ret
        exact ⟨rfl, rfl⟩
      · have h1 : (n : Int) ≤ i := by omega
        clear h
        go_enter Tryd.func96, Tryd.ntmps96
        go_wp2_with (go_at_call 95; refine (isw_yes _ _ (by omega)).mono ?_; rintro e w' ⟨rfl, rfl⟩)
        go_ret
        exact ⟨rfl, rfl⟩

/-- string(b) of a slice that reads xs, empty or not. -/
theorem conv_any (w : World) (A : Option Addr) (xs : List Int) (c B : Nat) (hr : Holds w B .u8 A xs) :
    (convert 35 9 (.slice A xs.length c)).run Tryd.prog w = .ok (.string (strOfNums xs)) w := by
  rcases Nat.eq_zero_or_pos xs.length with h0 | h0
  · obtain rfl : xs = [] := List.eq_nil_of_length_eq_zero h0
    cases A with
    | none => exact run_convert_bytes_nil w _ _ Tryd.underlying35 Tryd.underlying5 _ _ _ Tryd.underlying9
    | some ad =>
      have hl : (loadCells ad 0).run Tryd.prog w = .ok (([] : List Int).map (Value.int .u8)).toArray w := by simpa using run_loadCells_list (P := Tryd.prog) w ad [] (by simp)
      rw [run_convert_bytes_string w _ _ 5 _ _ c Tryd.underlying35 Tryd.underlying5 Tryd.underlying9]
      rw [show ([] : List Int).length = 0 from rfl, run_bytesToString w ad 0 c [] hl]
      rfl
  · obtain ⟨b, off, rfl, _, hc⟩ := hr h0
    exact run_convert_bytes_arg w _ _ Tryd.underlying35 Tryd.underlying5 b off xs.length c xs rfl hc _ Tryd.underlying9

end Go.Proofs.YtdfgdchmeikigaaDoor.Oct
