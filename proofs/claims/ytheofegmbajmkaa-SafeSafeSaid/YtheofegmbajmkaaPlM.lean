/-
  Layer 16, plan: bytes of an image, and what a step makes: contracts. Conditions: as each theorem names.
-/
import Derived.Test.YtheofegmbajmkaaPlC
import Derived.BigQuiet
namespace Go.Proofs.Ytheofegmbajmkaa.Pl
open Go.ChangeShapes Go.WideShapes Go.ChangeAt Go.RowKit Go.Proofs.Ytheofegmbajmkaa.Kit

/-- A part of what a slice holds. -/
theorem holds_part {w : World} {B : Nat} {k : IntKind} {A : Option Addr} {xs : List Int} (h : Holds w B k A xs) (from_ n : Nat) : Holds w B k (A.map fun x => x.add from_) ((xs.drop from_).take n) := by
  intro hx
  simp only [List.length_take, List.length_drop] at hx
  obtain ⟨b, off, rfl, hb, hc⟩ := h (by omega)
  refine ⟨b, off + from_, by rw [Option.map_some, add_plain], hb, fun j hj => ?_⟩
  simp only [List.length_take, List.length_drop] at hj
  have := hc (from_ + j) (by omega)
  rw [Nat.add_assoc, this]
  simp [List.getD, show j < n by omega]

/-- Bytes, or an error. -/
def GivesE (zs : List Int) (why : Int) (w : World) (e : Ending) (w' : World) : Prop :=
  ∃ A c, e = .returned (.tuple #[.slice A zs.length c, .int .i64 why]) ∧ Holds w' w'.heap.size .u8 A zs ∧ zs.length ≤ c ∧ c ≤ maxLen ∧ Below w.heap.size w w'

def okRange (old : List Int) (from_ n : Int) : Bool := decide (0 ≤ from_ ∧ 0 ≤ n ∧ from_ + n ≤ old.length)
def rangeB (old : List Int) (from_ n : Int) : List Int := (old.drop from_.toNat).take n.toNat

theorem range_no (A : Option Addr) (old : List Int) (c : Nat) (from_ n : Int) (w : World) (hf : -9223372036854775808 ≤ from_ ∧ from_ ≤ 9223372036854775807) (hn : -9223372036854775808 ≤ n ∧ n ≤ 9223372036854775807) (hl : old.length ≤ 1000000)
    (h : okRange old from_ n = false) : Calls Try.prog 55 #[.slice A old.length c, .int .i64 from_, .int .i64 n] w (GivesE [] 5 w) := by
  have h := of_decide_eq_false h
  by_cases h1 : from_ < 0
  · go_enter Try.func55, Try.ntmps55
    go_wp2
    go_ret2
    exact ⟨none, 0, rfl, Holds.nil, Nat.le_refl _, Nat.zero_le _, Below.refl _ _⟩
  · by_cases h2 : (old.length : Int) < from_
    · go_enter Try.func55, Try.ntmps55
      go_wp2
      go_ret2
      exact ⟨none, 0, rfl, Holds.nil, Nat.le_refl _, Nat.zero_le _, Below.refl _ _⟩
    · by_cases h3 : n < 0
      · go_enter Try.func55, Try.ntmps55
        go_wp2
        go_ret2
        exact ⟨none, 0, rfl, Holds.nil, Nat.le_refl _, Nat.zero_le _, Below.refl _ _⟩
      · have h4 : (old.length : Int) - from_ < n := by omega
        clear h
        go_enter Try.func55, Try.ntmps55
        go_wp2
        go_ret2
        exact ⟨none, 0, rfl, Holds.nil, Nat.le_refl _, Nat.zero_le _, Below.refl _ _⟩

set_option maxHeartbeats 1600000 in
theorem range_yes (A : Option Addr) (old : List Int) (c : Nat) (f n : Nat) (w : World) (hl : old.length ≤ 1000000) (hc : old.length ≤ c) (hm : c ≤ maxLen) (hr : Holds w w.heap.size .u8 A old)
    (h : f + n ≤ old.length) : Calls Try.prog 55 #[.slice A old.length c, .int .i64 f, .int .i64 n] w (GivesE ((old.drop f).take n) 0 w) := by
  unfold maxLen at hm
  have own0 := Own.nil w w.heap.size 5 .u8
  have hlen : ((old.drop f).take n).length = n := by simp; omega
  have hu : Try.prog.underlying 50 = some (.slice 5) := Try.underlying50
  by_cases hcf : c = f
  · have hn0 : n = 0 := by omega
    subst hn0 hcf
    have hfl : old.length = c := by omega
    have h0 : decide ((c : Int) < 0) = false := decide_eq_false (by omega)
    rw [hfl]
    rw [List.take_zero]
    clear hlen h hc
    go_enter Try.func55, Try.ntmps55
    go_wp2_with (at_builtin; refine wpList_append_two (xs := []) (ys := []) _ rfl _ _ _ _ rfl hu elem8 own0 rfl rfl (Holds.nil (B := 0)) (by simp) (Nat.le_refl _) ?_; intro A5 c5 w5 own5 t5 n5)
    simp only [List.length_nil, Nat.zero_add, List.nil_append] at own5 n5
    have hb5 := own0.turned t5 (Nat.le_refl _)
    obtain ⟨A6, c6, hv6, hl6, hm6, hr6⟩ := own5.opened
    injection hv6 with e1 e2 e3
    subst e1 e3
    go_ret2
    exact ⟨A5, c5, by simp, hr6, hl6, hm6, hb5⟩
  · have hsub := holds_part hr f n
    have h0 : decide ((f : Int) < 0) = false := decide_eq_false (by omega)
    have h1 : ¬ (old.length : Int) < (f : Int) := by omega
    have h2 : ¬ (old.length : Int) - (f : Int) < (n : Int) := by omega
    generalize (old.drop f).take n = ys at *
    subst hlen
    have hsl : f + ys.length - f = ys.length := by omega
    have HS := Lib.hid hsl
    clear hsl
    have h3 : decide ((ys.length : Int) < 0) = false := decide_eq_false (by omega)
    go_enter Try.func55, Try.ntmps55
    go_wp2_with (at_builtin; refine wpList_append_two (xs := []) (ys := ys) (A := A.map fun x => x.add f) (c := c - f) _ rfl _ _ _ _ rfl hu elem8 own0 rfl (show Value.slice _ (f + ys.length - f) _ = _ by rw [HS.out]) hsub (by simp; omega) (Nat.le_refl _) ?_; intro A5 c5 w5 own5 t5 n5)
    simp only [List.length_nil, Nat.zero_add, List.nil_append] at own5 n5
    have hb5 := own0.turned t5 (Nat.le_refl _)
    obtain ⟨A6, c6, hv6, hl6, hm6, hr6⟩ := own5.opened
    injection hv6 with e1 e2 e3
    subst e1 e3
    go_ret2
    exact ⟨A5, c5, by simp, hr6, hl6, hm6, hb5⟩
end Go.Proofs.Ytheofegmbajmkaa.Pl
