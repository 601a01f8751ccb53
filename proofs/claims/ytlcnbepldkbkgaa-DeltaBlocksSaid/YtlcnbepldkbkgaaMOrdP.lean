/-
  Orders of so many numbers: each once, told in two ways. Plain lists. Conditions: as each theorem names.
-/
import Derived.WalkKit
namespace Go.Proofs.Ytlcnbepldkbkgaa.Ordr

/-- Each number from 0 on, so many, once, and no other. -/
def OrderOk (l : List Int) (n : Nat) : Prop := l.length = n ∧ (∀ x ∈ l, 0 ≤ x ∧ x < n) ∧ l.Nodup
instance (l : List Int) (n : Nat) : Decidable (OrderOk l n) := by unfold OrderOk; exact inferInstance

theorem order_has : ∀ (n : Nat) (l : List Int), OrderOk l n → ∀ i : Nat, i < n → (i : Int) ∈ l
  | 0, _, _, i, hi => by omega
  | n + 1, l, ⟨h1, h2, h3⟩, i, hi => by
    have hlen : ∀ (m : Nat) (l : List Int), (∀ x ∈ l, 0 ≤ x ∧ x < (m : Int)) → l.Nodup → l.length ≤ m := by
      intro m
      induction m with
      | zero =>
        intro l h _
        cases l with
        | nil => simp
        | cons a l => have := h a (by simp); omega
      | succ m ih =>
        intro l h hn
        by_cases hm : (m : Int) ∈ l
        · have h4 := ih (l.erase m) (fun x hx => by
            have h5 := h x (List.mem_of_mem_erase hx)
            have h6 : x ≠ (m : Int) := fun e => by
              subst e
              exact (List.Nodup.not_mem_erase hn) hx
            omega) (hn.erase _)
          rw [List.length_erase_of_mem hm] at h4
          omega
        · have h4 := ih l (fun x hx => by
            have h5 := h x hx
            have h6 : x ≠ (m : Int) := fun e => by subst e; exact hm hx
            omega) hn
          omega
    have hn : (n : Int) ∈ l := by
      refine Classical.byContradiction fun hm => ?_
      have := hlen n l (fun x hx => by
        have h5 := h2 x hx
        have h6 : x ≠ (n : Int) := fun e => by subst e; exact hm hx
        omega) h3
      omega
    by_cases hin : i = n
    · subst hin; exact hn
    · have := order_has n (l.erase n) ⟨by rw [List.length_erase_of_mem hn]; omega, fun x hx => by
        have h5 := h2 x (List.mem_of_mem_erase hx)
        have h6 : x ≠ (n : Int) := fun e => by
          subst e
          exact (List.Nodup.not_mem_erase h3) hx
        omega, h3.erase _⟩ i (by omega)
      exact List.mem_of_mem_erase this

theorem order_of_count : ∀ (n : Nat) (l : List Int), l.length = n → (∀ i : Nat, i < n → l.count (i : Int) = 1) → OrderOk l n
  | 0, l, h, _ => by
    obtain rfl : l = [] := List.eq_nil_of_length_eq_zero h
    exact ⟨rfl, by simp, List.nodup_nil⟩
  | n + 1, l, h, hc => by
    have hn : (n : Int) ∈ l := List.count_pos_iff.1 (by rw [hc n (by omega)]; omega)
    obtain ⟨h1, h2, h3⟩ := order_of_count n (l.erase n) (by rw [List.length_erase_of_mem hn]; omega) fun i hi => by
      rw [List.count_erase_of_ne (by omega)]
      exact hc i (by omega)
    have hp := List.perm_cons_erase hn
    have hnot : (n : Int) ∉ l.erase n := fun hm => by have := h2 _ hm; omega
    refine ⟨h, fun x hx => ?_, ?_⟩
    · rcases List.mem_cons.1 (hp.mem_iff.1 hx) with rfl | hx
      · omega
      · have := h2 x hx; omega
    · exact hp.nodup_iff.2 (List.nodup_cons.2 ⟨hnot, h3⟩)

/-- By counts. -/
theorem order_count (l : List Int) (n : Nat) : OrderOk l n ↔ l.length = n ∧ ∀ i : Nat, i < n → l.count (i : Int) = 1 := by
  constructor
  · intro h
    refine ⟨h.1, fun i hi => ?_⟩
    have h1 := order_has n l h i hi
    have h2 := List.nodup_iff_count.1 h.2.2 (i : Int)
    have h3 := List.count_pos_iff.2 h1
    omega
  · rintro ⟨h1, h2⟩
    exact order_of_count n l h1 h2

/-- A beginning that is right so far: within bounds, each once. -/
def GoodO (l : List Int) (n : Nat) : Prop := (∀ x ∈ l, 0 ≤ x ∧ x < (n : Int)) ∧ l.Nodup
theorem GoodO.snoc {l : List Int} {n : Nat} {x : Int} : GoodO (l ++ [x]) n ↔ GoodO l n ∧ 0 ≤ x ∧ x < (n : Int) ∧ x ∉ l := by
  unfold GoodO
  rw [List.nodup_append]
  constructor
  · rintro ⟨h1, h2, h3, h4⟩
    refine ⟨⟨fun y hy => h1 y (by simp [hy]), h2⟩, (h1 x (by simp)).1, (h1 x (by simp)).2, fun hx => h4 x hx x (by simp) rfl⟩
  · rintro ⟨⟨h1, h2⟩, h3, h4, h5⟩
    refine ⟨fun y hy => ?_, h2, by simp, fun a ha b hb => ?_⟩
    · rcases List.mem_append.1 hy with hy | hy
      · exact h1 y hy
      · obtain rfl : y = x := by simpa using hy
        exact ⟨h3, h4⟩
    · obtain rfl : b = x := by simpa using hb
      exact fun e => h5 (e ▸ ha)
theorem GoodO.head {l r : List Int} {n : Nat} (h : GoodO (l ++ r) n) : GoodO l n :=
  ⟨fun x hx => h.1 x (by simp [hx]), (List.nodup_append.1 h.2).1⟩
end Go.Proofs.Ytlcnbepldkbkgaa.Ordr
