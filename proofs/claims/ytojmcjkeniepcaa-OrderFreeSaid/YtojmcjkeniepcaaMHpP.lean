/-
  A heap of numbers in a row, the lowest first: plain lists. Conditions: as each theorem names.
-/
import Derived.WalkKit
namespace Go.Proofs.Ytojmcjkeniepcaa.Hp

/-- Two places change what they hold. -/
def sw (xs : List Int) (i j : Nat) : List Int := (xs.set i (xs.getD j 0)).set j (xs.getD i 0)
theorem sw_length (xs : List Int) (i j : Nat) : (sw xs i j).length = xs.length := by unfold sw; simp
theorem getD_eq {xs : List Int} {i : Nat} (h : i < xs.length) : xs.getD i 0 = xs[i] := by simp [List.getD, List.getElem?_eq_getElem h]
theorem sw_perm {xs : List Int} {i j : Nat} (hi : i < xs.length) (hj : j < xs.length) : (sw xs i j).Perm xs := by
  unfold sw
  rw [getD_eq hi, getD_eq hj]
  exact List.set_set_perm hi hj
theorem getD_set (xs : List Int) (i : Nat) (x : Int) (k : Nat) : (xs.set i x).getD k 0 = if k = i ∧ i < xs.length then x else xs.getD k 0 := by
  simp only [List.getD, List.getElem?_set]
  by_cases h : i = k
  · subst h
    by_cases h2 : i < xs.length
    · simp [h2]
    · simp [h2]
  · rw [if_neg h, if_neg (fun h2 => h h2.1.symm)]
theorem sw_getD {xs : List Int} {i j : Nat} (hi : i < xs.length) (hj : j < xs.length) (k : Nat) : (sw xs i j).getD k 0 = if k = j then xs.getD i 0 else if k = i then xs.getD j 0 else xs.getD k 0 := by
  unfold sw
  rw [getD_set, getD_set]
  simp only [List.length_set, hi, hj, and_true]

def HeapTo (xs : List Int) (n : Nat) : Prop := ∀ i, 0 < i → i < n → xs.getD ((i - 1) / 2) 0 ≤ xs.getD i 0
def IsHeap (xs : List Int) : Prop := HeapTo xs xs.length
theorem isHeap_nil : IsHeap [] := fun i _ h => absurd h (by simp)

theorem heap_least {xs : List Int} {n : Nat} (h : HeapTo xs n) : ∀ i, i < n → xs.getD 0 0 ≤ xs.getD i 0 := by
  intro i
  induction i using Nat.strongRecOn with
  | ind i ih =>
    intro hi
    by_cases h0 : i = 0
    · subst h0; exact Int.le_refl _
    · exact Int.le_trans (ih ((i - 1) / 2) (by omega) (by omega)) (h i (by omega) hi)

/-- All is in order, but at j, that may be too low for what is above it. -/
def UpAt (xs : List Int) (j : Nat) : Prop :=
  (∀ i, 0 < i → i < xs.length → i ≠ j → xs.getD ((i - 1) / 2) 0 ≤ xs.getD i 0) ∧ ∀ i, 0 < i → i < xs.length → (i - 1) / 2 = j → 0 < j → xs.getD ((j - 1) / 2) 0 ≤ xs.getD i 0
theorem getD_left {xs ys : List Int} {i : Nat} (h : i < xs.length) : (xs ++ ys).getD i 0 = xs.getD i 0 := by simp [List.getD, List.getElem?_append_left h]
theorem up_start {xs : List Int} (x : Int) (h : IsHeap xs) : UpAt (xs ++ [x]) xs.length := by
  constructor
  · intro i h0 h1 h2
    have h3 : i < xs.length := by simp at h1; omega
    rw [getD_left h3, getD_left (by omega)]
    exact h i h0 h3
  · intro i h0 h1 h2
    simp at h1
    omega
theorem up_done {xs : List Int} {j : Nat} (h : UpAt xs j) (hd : 0 < j → xs.getD ((j - 1) / 2) 0 ≤ xs.getD j 0) : IsHeap xs := fun i h0 h1 => by
  by_cases hij : i = j
  · subst hij; exact hd h0
  · exact h.1 i h0 h1 hij
theorem up_next {xs : List Int} {j : Nat} (h : UpAt xs j) (hj : j < xs.length) (h0 : 0 < j) (hl : xs.getD j 0 < xs.getD ((j - 1) / 2) 0) : UpAt (sw xs ((j - 1) / 2) j) ((j - 1) / 2) := by
  obtain ⟨ha, hb⟩ := h
  have hp : (j - 1) / 2 < xs.length := by omega
  have hpj : (j - 1) / 2 < j := by omega
  constructor
  · intro i i0 i1 i2
    rw [sw_length] at i1
    rw [sw_getD hp hj, sw_getD hp hj]
    by_cases hij : i = j
    · subst hij
      rw [if_pos rfl, if_neg (by omega), if_pos rfl]
      omega
    · rw [if_neg hij, if_neg i2]
      by_cases h1 : (i - 1) / 2 = j
      · rw [if_pos h1]
        exact hb i i0 i1 h1 h0
      · rw [if_neg h1]
        by_cases h2 : (i - 1) / 2 = (j - 1) / 2
        · rw [if_pos h2]
          have := ha i i0 i1 hij
          rw [h2] at this
          omega
        · rw [if_neg h2]
          exact ha i i0 i1 hij
  · intro i i0 i1 i2 i3
    rw [sw_length] at i1
    rw [sw_getD hp hj, sw_getD hp hj, if_neg (by omega), if_neg (by omega)]
    have h5 := ha ((j - 1) / 2) i3 hp (by omega)
    by_cases hij : i = j
    · subst hij
      rw [if_pos rfl]
      exact h5
    · rw [if_neg hij, if_neg (by omega)]
      have := ha i i0 i1 hij
      rw [i2] at this
      omega

/-- Of the first n all is in order, but below i, that may be too great for what is below it. -/
def DownAt (xs : List Int) (n i : Nat) : Prop :=
  (∀ k, 0 < k → k < n → (k - 1) / 2 ≠ i → xs.getD ((k - 1) / 2) 0 ≤ xs.getD k 0) ∧ ∀ k, 0 < k → k < n → (k - 1) / 2 = i → 0 < i → xs.getD ((i - 1) / 2) 0 ≤ xs.getD k 0
theorem down_start {xs : List Int} {n : Nat} (h : IsHeap xs) (hn : xs.length = n + 1) : DownAt (sw xs 0 n) n 0 := by
  constructor
  · intro k k0 k1 k2
    rw [sw_getD (by omega) (by omega), sw_getD (by omega) (by omega), if_neg (by omega), if_neg (by omega), if_neg (by omega), if_neg (by omega)]
    exact h k k0 (by omega)
  · intro k _ _ _ h0
    omega
theorem down_done {xs : List Int} {n i : Nat} (h : DownAt xs n i) (h1 : 2 * i + 1 < n → xs.getD i 0 ≤ xs.getD (2 * i + 1) 0) (h2 : 2 * i + 2 < n → xs.getD i 0 ≤ xs.getD (2 * i + 2) 0) : HeapTo xs n := fun k k0 k1 => by
  by_cases hk : (k - 1) / 2 = i
  · rw [hk]
    rcases (show k = 2 * i + 1 ∨ k = 2 * i + 2 by omega) with rfl | rfl
    · exact h1 k1
    · exact h2 k1
  · exact h.1 k k0 k1 hk
theorem down_next {xs : List Int} {n i c : Nat} (h : DownAt xs n i) (hn : n ≤ xs.length) (hc : c = 2 * i + 1 ∨ c = 2 * i + 2) (hcn : c < n) (hl : xs.getD c 0 < xs.getD i 0)
    (h1 : xs.getD c 0 ≤ xs.getD (2 * i + 1) 0) (h2 : 2 * i + 2 < n → xs.getD c 0 ≤ xs.getD (2 * i + 2) 0) : DownAt (sw xs i c) n c := by
  obtain ⟨ha, hb⟩ := h
  have hi : i < xs.length := by omega
  have hc' : c < xs.length := by omega
  have hci : (c - 1) / 2 = i := by omega
  constructor
  · intro k k0 k1 k2
    rw [sw_getD hi hc', sw_getD hi hc', if_neg k2]
    by_cases hki : (k - 1) / 2 = i
    · rw [if_pos hki]
      by_cases hkc : k = c
      · rw [if_pos hkc]; omega
      · rw [if_neg hkc, if_neg (by omega)]
        rcases (show k = 2 * i + 1 ∨ k = 2 * i + 2 by omega) with rfl | rfl
        · exact h1
        · exact h2 k1
    · rw [if_neg hki]
      by_cases hkc : k = c
      · subst hkc; omega
      · rw [if_neg hkc]
        by_cases hki2 : k = i
        · subst hki2
          rw [if_pos rfl]
          exact hb c (by omega) hcn hci k0
        · rw [if_neg hki2]
          exact ha k k0 k1 hki
  · intro k k0 k1 k2 _
    rw [sw_getD hi hc', sw_getD hi hc', hci, if_neg (by omega), if_pos rfl, if_neg (by omega), if_neg (by omega)]
    have := ha k k0 k1 (by omega)
    rw [k2] at this
    exact this

/-- What a push leaves: a heap of what was there and one more. -/
def PushR (xs : List Int) (x : Int) (ys : List Int) : Prop := IsHeap ys ∧ ys.Perm (x :: xs)
/-- What a pop gives and leaves: the lowest, and a heap of the others. -/
def PopR (xs : List Int) (x : Int) (ys : List Int) : Prop := IsHeap ys ∧ xs.Perm (x :: ys) ∧ ∀ y ∈ ys, x ≤ y
theorem perm_snoc (xs : List Int) (x : Int) : (xs ++ [x]).Perm (x :: xs) := List.perm_append_comm
theorem pop_of {xs zs : List Int} {n : Nat} (hn : xs.length = n + 1) (h : IsHeap xs) (hz : HeapTo zs n) (hp : zs.Perm xs) (hl : zs.getD n 0 = xs.getD 0 0) : PopR xs (zs.getD n 0) (zs.take n) := by
  have hzl : zs.length = n + 1 := by rw [hp.length_eq, hn]
  have hsp : zs = zs.take n ++ [zs.getD n 0] := by
    rw [getD_eq (by omega)]
    conv => lhs; rw [← List.take_append_drop n zs]
    rw [List.drop_eq_getElem_cons (by omega), List.drop_eq_nil_of_le (by omega)]
  refine ⟨?_, ?_, ?_⟩
  · intro i i0 i1
    rw [List.length_take] at i1
    have e : ∀ k, k < n → (zs.take n).getD k 0 = zs.getD k 0 := fun k hk => by simp [List.getD, hk]
    rw [e _ (by omega), e _ (by omega)]
    exact hz i i0 (by omega)
  · refine hp.symm.trans ?_
    conv => lhs; rw [hsp]
    exact perm_snoc _ _
  · intro y hy
    rw [hl]
    have hy2 : y ∈ xs := hp.mem_iff.1 (List.mem_of_mem_take hy)
    obtain ⟨k, hk, rfl⟩ := List.getElem_of_mem hy2
    rw [← getD_eq hk]
    exact heap_least h k hk
end Go.Proofs.Ytojmcjkeniepcaa.Hp
