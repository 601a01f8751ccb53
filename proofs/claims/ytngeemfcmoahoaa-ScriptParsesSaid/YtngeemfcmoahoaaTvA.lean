/-
  Layer 30, a line's words, as the program takes them: contracts. Conditions: as each theorem names.
-/
import Derived.Test.YtngeemfcmoahoaaTyC
namespace Go.Proofs.Ytngeemfcmoahoaa.Tv
open Go.ChangeShapes Go.WideShapes Go.ChangeAt Go.RowKit Go.Proofs.Ytngeemfcmoahoaa.Kit Go.Proofs.Ytngeemfcmoahoaa.Tx Go.Proofs.Ytngeemfcmoahoaa.Ty

/-- A line's words, t of which were taken. -/
def wordsC (ws : List (List Int)) (t : Nat) : Array Value := #[.string (strOfNums (ws.getD 0 [])), .string (strOfNums (ws.getD 1 [])), .string (strOfNums (ws.getD 2 [])), .string (strOfNums (ws.getD 3 [])), .string (strOfNums (ws.getD 4 [])), .string (strOfNums (ws.getD 5 [])), .string (strOfNums (ws.getD 6 [])), .int .i64 ws.length, .int .i64 t]
def WordsAt (w : World) (g : Nat) (ws : List (List Int)) (t : Nat) : Prop := Block w g 84 (wordsC ws t)
theorem WordsAt.word {w : World} {g t : Nat} {ws : List (List Int)} (h : WordsAt w g ws t) {i : Nat} (hi : i < 7) : w.cell? ⟨g, i, none⟩ = some (.string (strOfNums (ws.getD i []))) := by
  have h1 := h.cell i
  rw [h1]
  match i, hi with
  | 0, _ => rfl
  | 1, _ => rfl
  | 2, _ => rfl
  | 3, _ => rfl
  | 4, _ => rfl
  | 5, _ => rfl
  | 6, _ => rfl
theorem WordsAt.taken {w : World} {g t : Nat} {ws : List (List Int)} (h : WordsAt w g ws t) (u : Nat) : WordsAt (w.setCell ⟨g, 8, none⟩ (.int .i64 u)) g ws u := h.set_ 8 _
def NoForm (w : World) (e : Ending) (w' : World) : Prop := e = .panicked [{ v := .iface 72 (.agg #[]), recovered := false }] ∧ ∃ n, w' = w.drewN n

set_option maxRecDepth 100000 in
set_option maxHeartbeats 3200000 in
theorem end_ok (g t : Nat) (ws : List (List Int)) (w : World) (h : WordsAt w g ws t) (ht : ws.length ≤ t) :
    Calls Try.prog 44 #[.pointer (some ⟨g, 0, none⟩)] w fun e w' => e = .returned (.tuple #[]) ∧ ∃ n, w' = w.drewN n := by
  have c7 : w.cell? ⟨g, 7, none⟩ = some (.int .i64 ws.length) := (h.cell 7).trans rfl
  have c8 : w.cell? ⟨g, 8, none⟩ = some (.int .i64 t) := (h.cell 8).trans rfl
  have d1 : decide ((t : Int) < (ws.length : Int)) = false := decide_eq_false (by omega)
  have d2 : decide (t < ws.length) = false := decide_eq_false (by omega)
  clear h
  go_enter Try.func44, Try.ntmps44
  go_wp2_with fail
  go_quiet (fail)
  go_wp2_with fail
  go_end0
  exact ⟨rfl, _, rfl⟩
set_option maxRecDepth 100000 in
set_option maxHeartbeats 3200000 in
theorem end_no (g t : Nat) (ws : List (List Int)) (w : World) (h : WordsAt w g ws t) (ht : t < ws.length) :
    Calls Try.prog 44 #[.pointer (some ⟨g, 0, none⟩)] w (NoForm w) := by
  have c7 : w.cell? ⟨g, 7, none⟩ = some (.int .i64 ws.length) := (h.cell 7).trans rfl
  have c8 : w.cell? ⟨g, 8, none⟩ = some (.int .i64 t) := (h.cell 8).trans rfl
  have d1 : decide ((t : Int) < (ws.length : Int)) = true := decide_eq_true (by omega)
  have d2 : decide (t < ws.length) = true := decide_eq_true (by omega)
  clear h
  go_enter Try.func44, Try.ntmps44
  go_wp2_with fail
  go_quiet (fail)
  go_wp2_with fail
  exact ⟨rfl, rfl, _, rfl⟩

set_option maxRecDepth 100000 in
set_option maxHeartbeats 6400000 in
/-- No word is left. -/
theorem take_no (g t : Nat) (ws : List (List Int)) (w : World) (h : WordsAt w g ws t) (ht : ws.length ≤ t ∨ 7 ≤ t) :
    Calls Try.prog 31 #[.pointer (some ⟨g, 0, none⟩)] w (NoForm w) := by
  have c7 : w.cell? ⟨g, 7, none⟩ = some (.int .i64 ws.length) := (h.cell 7).trans rfl
  have c8 : w.cell? ⟨g, 8, none⟩ = some (.int .i64 t) := (h.cell 8).trans rfl
  have d1 : decide (min (ws.length : Int) 7 ≤ (t : Int)) = true := decide_eq_true (by omega)
  clear h
  go_enter Try.func31, Try.ntmps31
  go_wp2_with fail
  go_region
  all_goals
    go_wp2_with fail
    exact ⟨rfl, rfl, 1, rfl⟩
set_option maxRecDepth 100000 in
set_option maxHeartbeats 12800000 in
/-- The next word. -/
theorem take_ok (g t : Nat) (ws : List (List Int)) (w : World) (h : WordsAt w g ws t) (ht : t < ws.length) (h7 : t < 7) :
    Calls Try.prog 31 #[.pointer (some ⟨g, 0, none⟩)] w fun e w' => e = .returned (.string (strOfNums (ws.getD t []))) ∧ ∃ n, w' = ((w.setCell ⟨g, 8, none⟩ (.int .i64 ((t + 1 : Nat) : Int))).drew).drewN n := by
  have c7 : w.cell? ⟨g, 7, none⟩ = some (.int .i64 ws.length) := (h.cell 7).trans rfl
  have c8 : w.cell? ⟨g, 8, none⟩ = some (.int .i64 t) := (h.cell 8).trans rfl
  have f8 := h.frozen 8
  have ct := h.word h7
  have d1 : decide (min (ws.length : Int) 7 ≤ (t : Int)) = false := decide_eq_false (by omega)
  have e1 : (w.setCell ⟨g, 8, none⟩ (.int .i64 ((t + 1 : Nat) : Int))).drew.cell? ⟨g, 8, none⟩ = some (.int .i64 ((t + 1 : Nat) : Int)) := World.cell?_setCell_same _ _ _ c8
  have e2 : (w.setCell ⟨g, 8, none⟩ (.int .i64 ((t + 1 : Nat) : Int))).drew.cell? ⟨g, t, none⟩ = some (.string (strOfNums (ws.getD t []))) := (World.cell?_setCell_other _ _ _ _ (by intro he; injection he with _ he2; omega)).trans ct
  obtain ⟨W, hW⟩ : ∃ W, (w.setCell ⟨g, 8, none⟩ (.int .i64 ((t + 1 : Nat) : Int))).drew = W := ⟨_, rfl⟩
  rw [hW] at e1 e2 ⊢
  have HW := Lib.hid hW
  obtain ⟨sx, hsx⟩ : ∃ sx, strOfNums (ws.getD t []) = sx := ⟨_, rfl⟩
  rw [hsx] at e2 ct ⊢
  have HE1 := Lib.hid e1
  have HE2 := Lib.hid e2
  clear h hW hsx e1 e2 ct
  obtain rfl | rfl | rfl | rfl | rfl | rfl | rfl : t = 0 ∨ t = 1 ∨ t = 2 ∨ t = 3 ∨ t = 4 ∨ t = 5 ∨ t = 6 := by omega
  · have d1 : decide (min (ws.length : Int) 7 ≤ (0 : Int)) = false := decide_eq_false (by omega)
    have c8 : w.cell? ⟨g, 8, none⟩ = some (.int .i64 0) := c8
    go_enter Try.func31, Try.ntmps31
    go_wp2_with fail
    go_region
    all_goals
      go_wp2_with fail
      rw [show (w.setCell ⟨g, 8, none⟩ (.int .i64 1)).drew = W from HW.out]
      have e1 : W.cell? ⟨g, 8, none⟩ = some (.int .i64 1) := HE1.out
      have e2 : W.cell? ⟨g, 0, none⟩ = some (.string sx) := HE2.out
      clear c7 c8 f8 d1
      go_region
      all_goals
        go_wp2_with fail
        go_ret
        exact ⟨rfl, 1, rfl⟩
  · have d1 : decide (min (ws.length : Int) 7 ≤ (1 : Int)) = false := decide_eq_false (by omega)
    have c8 : w.cell? ⟨g, 8, none⟩ = some (.int .i64 1) := c8
    go_enter Try.func31, Try.ntmps31
    go_wp2_with fail
    go_region
    all_goals
      go_wp2_with fail
      rw [show (w.setCell ⟨g, 8, none⟩ (.int .i64 2)).drew = W from HW.out]
      have e1 : W.cell? ⟨g, 8, none⟩ = some (.int .i64 2) := HE1.out
      have e2 : W.cell? ⟨g, 1, none⟩ = some (.string sx) := HE2.out
      clear c7 c8 f8 d1
      go_region
      all_goals
        go_wp2_with fail
        go_ret
        exact ⟨rfl, 1, rfl⟩
  · have d1 : decide (min (ws.length : Int) 7 ≤ (2 : Int)) = false := decide_eq_false (by omega)
    have c8 : w.cell? ⟨g, 8, none⟩ = some (.int .i64 2) := c8
    go_enter Try.func31, Try.ntmps31
    go_wp2_with fail
    go_region
    all_goals
      go_wp2_with fail
      rw [show (w.setCell ⟨g, 8, none⟩ (.int .i64 3)).drew = W from HW.out]
      have e1 : W.cell? ⟨g, 8, none⟩ = some (.int .i64 3) := HE1.out
      have e2 : W.cell? ⟨g, 2, none⟩ = some (.string sx) := HE2.out
      clear c7 c8 f8 d1
      go_region
      all_goals
        go_wp2_with fail
        go_ret
        exact ⟨rfl, 1, rfl⟩
  · have d1 : decide (min (ws.length : Int) 7 ≤ (3 : Int)) = false := decide_eq_false (by omega)
    have c8 : w.cell? ⟨g, 8, none⟩ = some (.int .i64 3) := c8
    go_enter Try.func31, Try.ntmps31
    go_wp2_with fail
    go_region
    all_goals
      go_wp2_with fail
      rw [show (w.setCell ⟨g, 8, none⟩ (.int .i64 4)).drew = W from HW.out]
      have e1 : W.cell? ⟨g, 8, none⟩ = some (.int .i64 4) := HE1.out
      have e2 : W.cell? ⟨g, 3, none⟩ = some (.string sx) := HE2.out
      clear c7 c8 f8 d1
      go_region
      all_goals
        go_wp2_with fail
        go_ret
        exact ⟨rfl, 1, rfl⟩
  · have d1 : decide (min (ws.length : Int) 7 ≤ (4 : Int)) = false := decide_eq_false (by omega)
    have c8 : w.cell? ⟨g, 8, none⟩ = some (.int .i64 4) := c8
    go_enter Try.func31, Try.ntmps31
    go_wp2_with fail
    go_region
    all_goals
      go_wp2_with fail
      rw [show (w.setCell ⟨g, 8, none⟩ (.int .i64 5)).drew = W from HW.out]
      have e1 : W.cell? ⟨g, 8, none⟩ = some (.int .i64 5) := HE1.out
      have e2 : W.cell? ⟨g, 4, none⟩ = some (.string sx) := HE2.out
      clear c7 c8 f8 d1
      go_region
      all_goals
        go_wp2_with fail
        go_ret
        exact ⟨rfl, 1, rfl⟩
  · have d1 : decide (min (ws.length : Int) 7 ≤ (5 : Int)) = false := decide_eq_false (by omega)
    have c8 : w.cell? ⟨g, 8, none⟩ = some (.int .i64 5) := c8
    go_enter Try.func31, Try.ntmps31
    go_wp2_with fail
    go_region
    all_goals
      go_wp2_with fail
      rw [show (w.setCell ⟨g, 8, none⟩ (.int .i64 6)).drew = W from HW.out]
      have e1 : W.cell? ⟨g, 8, none⟩ = some (.int .i64 6) := HE1.out
      have e2 : W.cell? ⟨g, 5, none⟩ = some (.string sx) := HE2.out
      clear c7 c8 f8 d1
      go_region
      all_goals
        go_wp2_with fail
        go_ret
        exact ⟨rfl, 1, rfl⟩
  · have d1 : decide (min (ws.length : Int) 7 ≤ (6 : Int)) = false := decide_eq_false (by omega)
    have c8 : w.cell? ⟨g, 8, none⟩ = some (.int .i64 6) := c8
    go_enter Try.func31, Try.ntmps31
    go_wp2_with fail
    go_region
    all_goals
      go_wp2_with fail
      rw [show (w.setCell ⟨g, 8, none⟩ (.int .i64 7)).drew = W from HW.out]
      have e1 : W.cell? ⟨g, 8, none⟩ = some (.int .i64 7) := HE1.out
      have e2 : W.cell? ⟨g, 6, none⟩ = some (.string sx) := HE2.out
      clear c7 c8 f8 d1
      go_region
      all_goals
        go_wp2_with fail
        go_ret
        exact ⟨rfl, 1, rfl⟩
end Go.Proofs.Ytngeemfcmoahoaa.Tv
