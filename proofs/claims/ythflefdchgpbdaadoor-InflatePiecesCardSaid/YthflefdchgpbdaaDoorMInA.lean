/-
  Layer 13, inflate: lengths, distances, refusals, numbers, symbols: the program's contracts. Conditions: as each theorem names.
-/
import Derived.Test.YthflefdchgpbdaaDoorMHufQ
import Derived.Test.YthflefdchgpbdaaDoorMGIces0
namespace Go.Proofs.YthflefdchgpbdaaDoor.Inf
open Go.ChangeShapes Go.WideShapes Go.ChangeAt Go.RowKit Go.Proofs.YthflefdchgpbdaaDoor.Kit Go.Proofs.YthflefdchgpbdaaDoor.Bits Go.Proofs.YthflefdchgpbdaaDoor.Huf Go.Proofs.YthflefdchgpbdaaDoor.Df

theorem lens_are : ∀ s, s < 28 → 8 ≤ s → lens.getD s 0 = 3 + (4 + (s : Int) % 4) * 2 ^ (s / 4 - 1) := by decide
theorem lens_low : ∀ s, s < 8 → lens.getD s 0 = 3 + (s : Int) := by decide
theorem pow13 : ∀ k, k < 14 → 1 ≤ (2 : Int) ^ k ∧ (2 : Int) ^ k ≤ 8192 := by decide
theorem two_rets {a b a' b' : Int} (h1 : a = a') (h2 : b = b') : Ending.returned (.tuple #[.int .i64 a, .int .i64 b]) = .returned (.tuple #[.int .i64 a', .int .i64 b']) := by rw [h1, h2]

set_option maxHeartbeats 1600000 in
theorem length_any (s : Nat) (hs : s ≤ 28) (w : World) : Calls Tryd.prog 64 #[.int .i64 s] w fun e w' => e = .returned (.tuple #[.int .i64 (lens.getD s 0), .int .i64 (lmore s)]) ∧ w' = w := by
  unfold lmore
  by_cases h8 : s < 8
  · rw [lens_low s h8, if_neg (by omega)]
    have d1 : decide ((s : Int) < 8) = true := decide_eq_true (by omega)
    have d2 : decide (s < 8) = true := decide_eq_true h8
    go_enter Tryd.func64, Tryd.ntmps64
    go_wp2_with fail
    go_ret2
    exact ⟨rfl, rfl⟩
  by_cases h28 : s = 28
  · subst h28
    go_enter Tryd.func64, Tryd.ntmps64
    go_wp2_with fail
    go_ret2
    exact ⟨rfl, rfl⟩
  rw [lens_are s (by omega) (by omega), if_pos (by omega)]
  have d1 : decide ((s : Int) < 8) = false := decide_eq_false (by omega)
  have d2 : decide (s < 8) = false := decide_eq_false h8
  have d3 : ((s : Int) == 28) = false := by rw [beq_eq_false_iff_ne]; omega
  have d4 : (s == 28) = false := by rw [beq_eq_false_iff_ne]; omega
  obtain ⟨k, hk⟩ : ∃ k : Nat, s / 4 - 1 = k := ⟨_, rfl⟩
  have hk2 : (s : Int) / 4 - 1 = (k : Int) := by omega
  obtain ⟨r, hr⟩ : ∃ r : Int, (s : Int) % 4 = r := ⟨_, rfl⟩
  have hrb : 0 ≤ r ∧ r ≤ 3 := by omega
  have hkb : k < 6 := by omega
  have hp := pow13 k (by omega)
  have hm : 0 ≤ (4 + r) * 2 ^ k ∧ (4 + r) * 2 ^ k ≤ 57344 := by
    have h1 : (4 + r) * 2 ^ k ≤ 7 * 2 ^ k := Int.mul_le_mul_of_nonneg_right (by omega) (by omega)
    exact ⟨Int.mul_nonneg (by omega) (by omega), by omega⟩
  rw [hk, hk2, hr]
  clear h8 h28
  go_enter Tryd.func64, Tryd.ntmps64
  go_wp2_with fail
  go_ret2
  exact ⟨rfl, rfl⟩

theorem dists_are2 : ∀ s, s < 30 → 2 ≤ s → dists.getD s 0 = 1 + (2 + (s : Int) % 2) * 2 ^ (s / 2 - 1) := by decide
theorem dists_low2 : ∀ s, s < 2 → dists.getD s 0 = 1 + (s : Int) := by decide
set_option maxHeartbeats 1600000 in
theorem distance_any (s : Nat) (hs : s < 30) (w : World) : Calls Tryd.prog 65 #[.int .i64 s] w fun e w' => e = .returned (.tuple #[.int .i64 (dists.getD s 0), .int .i64 (dmore s)]) ∧ w' = w := by
  unfold dmore
  by_cases h2 : s < 2
  · rw [dists_low2 s h2, if_pos (by omega)]
    have d1 : decide ((s : Int) < 2) = true := decide_eq_true (by omega)
    have d2 : decide (s < 2) = true := decide_eq_true h2
    go_enter Tryd.func65, Tryd.ntmps65
    go_wp2_with fail
    go_ret2
    exact ⟨rfl, rfl⟩
  rw [dists_are2 s (by omega) (by omega)]
  have hd : (if (s : Int) < 4 then (0 : Int) else (s : Int) / 2 - 1) = (s : Int) / 2 - 1 := by
    by_cases h : (s : Int) < 4
    · rw [if_pos h]; omega
    · rw [if_neg h]
  rw [hd]
  have d1 : decide ((s : Int) < 2) = false := decide_eq_false (by omega)
  have d2 : decide (s < 2) = false := decide_eq_false h2
  obtain ⟨k, hk⟩ : ∃ k : Nat, s / 2 - 1 = k := ⟨_, rfl⟩
  have hk2 : (s : Int) / 2 - 1 = (k : Int) := by omega
  obtain ⟨r, hr⟩ : ∃ r : Int, (s : Int) % 2 = r := ⟨_, rfl⟩
  have hrb : 0 ≤ r ∧ r ≤ 1 := by omega
  have hkb : k < 14 := by omega
  have hp := pow13 k (by omega)
  have hm : 0 ≤ (2 + r) * 2 ^ k ∧ (2 + r) * 2 ^ k ≤ 24576 := by
    have h1 : (2 + r) * 2 ^ k ≤ 3 * 2 ^ k := Int.mul_le_mul_of_nonneg_right (by omega) (by omega)
    exact ⟨Int.mul_nonneg (by omega) (by omega), by omega⟩
  rw [hk, hk2, hr]
  clear h2 hd
  go_enter Tryd.func65, Tryd.ntmps65
  go_wp2_with fail
  go_ret2
  exact ⟨rfl, rfl⟩

def missingE : Ending := .panicked [{ v := .iface 70 (.agg #[]), recovered := false }]
def brokenE (why : Int) : Ending := .panicked [{ v := .iface 72 (.agg #[.int .i64 why]), recovered := false }]
theorem refuse_no (why : Int) (w : World) : Calls Tryd.prog 35 #[.bool false, .int .i64 why] w fun e w' => e = .returned (.tuple #[]) ∧ w' = w := by
  go_enter Tryd.func35, Tryd.ntmps35
  go_wp2_with fail
  go_end0
  exact ⟨rfl, rfl⟩
theorem refuse_yes (why : Int) (w : World) : Calls Tryd.prog 35 #[.bool true, .int .i64 why] w fun e w' => e = brokenE why ∧ w' = w := by
  go_enter Tryd.func35, Tryd.ntmps35
  go_wp2_with fail
  exact ⟨rfl, rfl, rfl⟩

/-- A number of so many bits: it is there, or it is missing. -/
def NumLeaves (B g : Nat) (v : Value) (bs : List Int) (p n : Nat) (w : World) (e : Ending) (w' : World) : Prop :=
  TurnsIn (· = g) w w' ∧ if p + n ≤ 8 * bs.length then e = .returned (.int .i64 (val (((bitsOf bs).drop p).take n))) ∧ Rd w' B g v bs (p + n) else e = missingE ∧ Rd w' B g v bs p
set_option maxHeartbeats 1600000 in
theorem number_any (B g gp : Nat) (v u1 u2 : Value) (bs : List Int) (p n : Nat) (w : World) (hp : Block w gp 76 #[.pointer (some ⟨g, 0, none⟩), u1, u2]) (R : Rd w B g v bs p) (ho : Octets bs) (hl : bs.length ≤ 1000000) (hn : n ≤ 16) :
    Calls Tryd.prog 43 #[.pointer (some ⟨gp, 0, none⟩), .int .i64 (n : Int)] w (NumLeaves B g v bs p n w) := by
  have c0 : w.cell? ⟨gp, 0, none⟩ = some (.pointer (some ⟨g, 0, none⟩)) := hp.cell 0
  unfold NumLeaves
  by_cases h : p + n ≤ 8 * bs.length
  · have G := Lib.hid (get_ok B g v bs p n w R ho hl (by omega) h)
    have hb := val_bd (((bitsOf_bit bs).drop p).take n)
    have hb2 : (2 : Int) ^ (((bitsOf bs).drop p).take n).length ≤ 2 ^ 16 := p2_le (by simp; omega)
    rw [show (2 : Int) ^ 16 = 65536 by decide] at hb2
    simp only [if_pos h]
    generalize val (((bitsOf bs).drop p).take n) = x at *
    have hx : 0 ≤ x ∧ x < 65536 := by omega
    clear h hb hb2 hp R
    go_enter Tryd.func43, Tryd.ntmps43
    go_wp2_with (go_at_call 58; refine G.out.mono ?_; rintro e w1 ⟨rfl, hR, ht⟩)
    go_ret
    exact ⟨ht, rfl, hR⟩
  · have G := Lib.hid (get_short B g v bs p n w R hl (by omega) (by omega))
    have HR := Lib.hid R
    simp only [if_neg h]
    clear h hp R
    go_enter Tryd.func43, Tryd.ntmps43
    go_wp2_with (go_at_call 58; refine G.out.mono ?_; rintro e w1 ⟨rfl, hb⟩)
    exact ⟨rfl, .ofNew hb, rfl, HR.out.below hb⟩

/-- A symbol: it is told, or bits are missing, or there is none. -/
def SymLeaves (B g : Nat) (v : Value) (bs : List Int) (p : Nat) (t : Huf.Told) (w : World) (e : Ending) (w' : World) : Prop :=
  TurnsIn (· = g) w w' ∧ match t with
  | .sym s n => e = .returned (.int .i64 s) ∧ Rd w' B g v bs (p + n)
  | .short => e = missingE ∧ Rd w' B g v bs p
  | .form => e = brokenE 11 ∧ Rd w' B g v bs p
set_option maxHeartbeats 1600000 in
theorem symbol_any (B g gp gt B' : Nat) (v u1 u2 vt : Value) (bs l : List Int) (p : Nat) (w : World) (hp : Block w gp 76 #[.pointer (some ⟨g, 0, none⟩), u1, u2]) (hl : l.length ≤ 300) (hM : mayB l = true) (ho : Octets l) (R : Rd w B g v bs p) (hob : Octets bs) (hbl : bs.length ≤ 1000000) (tb : Tb w B' gt vt l 15 (syms l 15)) :
    Calls Tryd.prog 51 #[.pointer (some ⟨gp, 0, none⟩), .pointer (some ⟨gt, 0, none⟩)] w (SymLeaves B g v bs p (told l ((bitsOf bs).drop p)) w) := by
  have c0 : w.cell? ⟨gp, 0, none⟩ = some (.pointer (some ⟨g, 0, none⟩)) := hp.cell 0
  have G := Lib.hid (next_any B g gt B' v vt bs l p w hl hM ho R hob hbl tb)
  have GN := Lib.hid (fun W => refuse_no 11 W)
  have GY := Lib.hid (fun W => refuse_yes 11 W)
  obtain ⟨t, ht⟩ : ∃ t : Huf.Told, told l ((bitsOf bs).drop p) = t := ⟨_, rfl⟩
  rw [ht] at G ⊢
  clear ht hp tb R hM ho
  unfold NextLeaves at G
  unfold SymLeaves
  cases t with
  | sym s n =>
    go_enter Tryd.func51, Tryd.ntmps51
    go_wp2_with (first
      | (go_at_call 63; refine G.out.mono ?_; rintro e w1 ⟨ht, rfl, hR⟩)
      | (go_at_call 35; refine (GN.out _).mono ?_; rintro e w2 ⟨rfl, hw2⟩; have hw2' := hw2.symm; clear hw2; subst hw2'))
    go_ret
    exact ⟨ht, rfl, hR⟩
  | short =>
    go_enter Tryd.func51, Tryd.ntmps51
    go_wp2_with (go_at_call 63; refine G.out.mono ?_; rintro e w1 ⟨ht, rfl, hR⟩)
    exact ⟨rfl, ht, rfl, hR⟩
  | form =>
    unfold brokenE at GY
    go_enter Tryd.func51, Tryd.ntmps51
    go_wp2_with (first
      | (go_at_call 63; refine G.out.mono ?_; rintro e w1 ⟨ht, rfl, hR⟩)
      | (go_at_call 35; refine (GY.out _).mono ?_; rintro e w2 ⟨rfl, hw2⟩; have hw2' := hw2.symm; clear hw2; subst hw2'))
    exact ⟨rfl, ht, rfl, hR⟩
end Go.Proofs.YthflefdchgpbdaaDoor.Inf
