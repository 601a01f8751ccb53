/-
  Layer 12, deflate: the tables of least lengths and distances, plain. No program.
-/
import Derived.Lib.Hide
namespace Go.Proofs.YtakfllfbodiagaaDoor.Df

def lens : List Int := [3, 4, 5, 6, 7, 8, 9, 10, 11, 13, 15, 17, 19, 23, 27, 31, 35, 43, 51, 59, 67, 83, 99, 115, 131, 163, 195, 227, 258]
def dists : List Int := [1, 2, 3, 4, 5, 7, 9, 13, 17, 25, 33, 49, 65, 97, 129, 193, 257, 385, 513, 769, 1025, 1537, 2049, 3073, 4097, 6145, 8193, 12289, 16385, 24577]

/-- How many of them are no greater. -/
def cntLe : List Int → Int → Nat
  | [], _ => 0
  | x :: l, n => if x ≤ n then cntLe l n + 1 else cntLe l n

theorem cnt_le : ∀ (l : List Int) (n : Int), cntLe l n ≤ l.length
  | [], _ => Nat.le_refl _
  | x :: l, n => by
    have := cnt_le l n
    rw [cntLe]
    split <;> simp <;> omega

theorem cnt_zero : ∀ (l : List Int) (n : Int), (∀ x ∈ l, n < x) → cntLe l n = 0
  | [], _, _ => rfl
  | x :: l, n, h => by
    have h1 := h x (by simp)
    rw [cntLe, if_neg (by omega), cnt_zero l n fun y hy => h y (by simp [hy])]

theorem cnt_iff : ∀ (l : List Int), l.Pairwise (· < ·) → ∀ (n : Int) (k : Nat), k < l.length → (l.getD k 0 ≤ n ↔ k < cntLe l n)
  | [], _, _, k, hk => by simp at hk
  | x :: l, hp, n, k, hk => by
    rw [List.pairwise_cons] at hp
    by_cases hx : x ≤ n
    · rw [cntLe, if_pos hx]
      cases k with
      | zero => simp [hx]
      | succ k =>
        have := cnt_iff l hp.2 n k (by simpa using hk)
        simp only [List.getD_cons_succ]
        omega
    · rw [cntLe, if_neg hx, cnt_zero l n fun y hy => by have := hp.1 y hy; omega]
      cases k with
      | zero => simp only [List.getD_cons_zero]; omega
      | succ k =>
        simp only [List.getD_cons_succ]
        have hk' : k < l.length := by simpa using hk
        have := hp.1 (l.getD k 0) (by rw [List.getD_eq_getElem?_getD, List.getElem?_eq_getElem hk']; exact List.getElem_mem hk')
        omega

theorem lens_rise : lens.Pairwise (· < ·) := by decide
theorem dists_rise : dists.Pairwise (· < ·) := by decide

/-- The place of the greatest one that isn't greater. -/
def at_ (l : List Int) (n : Int) : Nat := cntLe l n - 1
def lmore (k : Int) : Int := if 8 ≤ k ∧ k < 28 then k / 4 - 1 else 0
def dmore (k : Int) : Int := if k < 4 then 0 else k / 2 - 1

theorem at_lens (n : Int) (h : 3 ≤ n) : at_ lens n ≤ 28 ∧ cntLe lens n = at_ lens n + 1 ∧ lens.getD (at_ lens n) 0 ≤ n := by
  have h1 := cnt_le lens n
  have h2 : 0 < cntLe lens n := (cnt_iff lens lens_rise n 0 (by decide)).1 (by simpa [lens] using h)
  have h3 : lens.length = 29 := rfl
  unfold at_
  exact ⟨by omega, by omega, (cnt_iff lens lens_rise n _ (by omega)).2 (by omega)⟩
theorem at_dists (n : Int) (h : 1 ≤ n) : at_ dists n ≤ 29 ∧ cntLe dists n = at_ dists n + 1 ∧ dists.getD (at_ dists n) 0 ≤ n := by
  have h1 := cnt_le dists n
  have h2 : 0 < cntLe dists n := (cnt_iff dists dists_rise n 0 (by decide)).1 (by simpa [dists] using h)
  have h3 : dists.length = 30 := rfl
  unfold at_
  exact ⟨by omega, by omega, (cnt_iff dists dists_rise n _ (by omega)).2 (by omega)⟩
theorem lens_bd : ∀ k, k < 29 → 3 ≤ lens.getD k 0 ∧ lens.getD k 0 ≤ 258 := by decide
theorem dists_bd : ∀ k, k < 30 → 1 ≤ dists.getD k 0 ∧ dists.getD k 0 ≤ 24577 := by decide
/-- The least distances, reckoned. -/
theorem dists_are : ∀ s, s < 30 → 4 ≤ s → dists.getD s 0 = (2 + (s : Int) % 2) * 2 ^ (s / 2 - 1) + 1 := by decide
theorem dists_low : ∀ s, s < 4 → dists.getD s 0 = (s : Int) + 1 := by decide
end Go.Proofs.YtakfllfbodiagaaDoor.Df
