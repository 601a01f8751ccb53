/-
  Suffixes in order, by doubling: plain maths: the first level, the next one, the last one. Conditions: as each theorem names.
-/
import Derived.Test.YtlcnbepldkbkgaaMSxP
namespace Go.Proofs.Ytlcnbepldkbkgaa.Sx
open Go.Proofs.Ytlcnbepldkbkgaa.Ordr

theorem cnt_countP (p : Nat → Bool) : ∀ m, cnt p m = (List.range m).countP p
  | 0 => rfl
  | m + 1 => by
    rw [List.range_succ, List.countP_append, ← cnt_countP p m, List.countP_singleton]
    rfl
theorem cnt_from (k : Nat) : ∀ m, cnt (fun i => decide (k ≤ i)) m = m - k
  | 0 => by simp [cnt]
  | m + 1 => by
    unfold cnt
    rw [cnt_from k m]
    by_cases h : k ≤ m
    · rw [if_pos (decide_eq_true h)]; omega
    · rw [if_neg (by simpa using h)]; omega
theorem PermT.cnt {n : Nat} {T : Nat → Nat} (h : PermT n T) (p : Nat → Bool) : Sx.cnt (fun i => p (T i)) n = Sx.cnt p n := by
  rw [cnt_countP, cnt_countP]
  have h1 : ((List.range n).map T).Perm (List.range n) := by
    refine (List.perm_ext_iff_of_nodup ?_ List.nodup_range).2 fun x => ?_
    · rw [List.nodup_iff_pairwise_ne, List.pairwise_map]
      refine (List.pairwise_lt_range (n := n)).imp_of_mem ?_
      intro a c ha hc hac e
      have := h.inj a c (List.mem_range.1 ha) (List.mem_range.1 hc) e
      omega
    · rw [List.mem_map, List.mem_range]
      constructor
      · rintro ⟨i, hi, rfl⟩; exact h.lt i (List.mem_range.1 hi)
      · intro hx
        obtain ⟨i, hi, e⟩ := h.onto hx
        exact ⟨i, List.mem_range.2 hi, e⟩
  rw [← h1.countP_eq p, List.countP_map]
  rfl
/-- The place of each that counts. -/
theorem cnt_onto {p : Nat → Bool} : ∀ {n c : Nat}, c < cnt p n → ∃ i, i < n ∧ p i = true ∧ cnt p i = c
  | 0, c, h => absurd h (by simp [cnt])
  | n + 1, c, h => by
    by_cases h1 : c < cnt p n
    · obtain ⟨i, hi, h2⟩ := cnt_onto h1
      exact ⟨i, by omega, h2⟩
    · unfold cnt at h
      by_cases hp : p n = true
      · rw [if_pos hp] at h
        exact ⟨n, by omega, hp, by omega⟩
      · rw [if_neg hp] at h
        omega
theorem cnt_less {p : Nat → Bool} {i j : Nat} (h : i < j) (hp : p i = true) : cnt p i < cnt p j := by
  have h1 := cnt_mono p (show i + 1 ≤ j by omega)
  have h2 : cnt p (i + 1) = cnt p i + 1 := by show _ + _ = _; rw [if_pos hp]
  omega

/-- The row that is put in order next: those without a second half ahead, the others as their second halves are in order. -/
structure SecRow (n k : Nat) (T row : Nat → Nat) : Prop where
  lo : ∀ j, j < k → row j = n - k + j
  hi : ∀ p, p < n → k ≤ T p → row (k + cnt (fun i => decide (k ≤ T i)) p) = T p - k
theorem SecRow.at_ {n k : Nat} {T row : Nat → Nat} (h : SecRow n k T row) (hT : PermT n T) {j : Nat} (hj : j < n) (hkj : k ≤ j) : ∃ p, p < n ∧ k ≤ T p ∧ j = k + cnt (fun i => decide (k ≤ T i)) p ∧ row j = T p - k := by
  have hc : j - k < cnt (fun i => decide (k ≤ T i)) n := by
    rw [hT.cnt (fun i => decide (k ≤ i)), cnt_from]
    omega
  obtain ⟨p, hp, hq, e⟩ := cnt_onto hc
  have hq := of_decide_eq_true hq
  have := h.hi p hp hq
  rw [e, show k + (j - k) = j by omega] at this
  exact ⟨p, hp, hq, by omega, this⟩
theorem SecRow.ok {b : List Int} {k c : Nat} {T row : Nat → Nat} {r : Nat → Int} (h : SecRow b.length k T row) (L : Lvl b k T r c) (hk : k < b.length) :
    PermT b.length row ∧ ∀ i j, i < j → j < b.length → secL b.length k r (row i) ≤ secL b.length k r (row j) := by
  have hlow : ∀ j, j < k → secL b.length k r (row j) = -1 := fun j hj => by unfold secL; rw [h.lo j hj, if_pos (by omega)]
  have hhi : ∀ p, p < b.length → k ≤ T p → secL b.length k r (T p - k) = r (T p) := fun p hp hq => by
    have := L.pm.lt p hp
    unfold secL
    rw [show T p - k + k = T p by omega, if_neg (by omega)]
  refine ⟨⟨fun j hj => ?_, fun i j hi hj e => ?_⟩, fun i j hij hj => ?_⟩
  · by_cases hjk : j < k
    · rw [h.lo j hjk]; omega
    · obtain ⟨p, hp, _, _, e⟩ := h.at_ L.pm hj (by omega)
      have := L.pm.lt p hp
      omega
  · by_cases hik : i < k
    · by_cases hjk : j < k
      · rw [h.lo i hik, h.lo j hjk] at e; omega
      · obtain ⟨p, hp, hq, _, e2⟩ := h.at_ L.pm hj (by omega)
        rw [h.lo i hik, e2] at e
        have := L.pm.lt p hp
        omega
    · obtain ⟨p, hp, hq, e1, e2⟩ := h.at_ L.pm hi (by omega)
      by_cases hjk : j < k
      · rw [h.lo j hjk, e2] at e
        have := L.pm.lt p hp
        omega
      · obtain ⟨u, hu, hv, e3, e4⟩ := h.at_ L.pm hj (by omega)
        rw [e2, e4] at e
        have := L.pm.inj p u hp hu (by omega)
        subst this
        omega
  · by_cases hik : i < k
    · rw [hlow i hik]
      by_cases hjk : j < k
      · rw [hlow j hjk]; omega
      · obtain ⟨u, hu, hv, e3, e4⟩ := h.at_ L.pm hj (by omega)
        rw [e4, hhi u hu hv]
        have := (L.lo _ (L.pm.lt u hu)).1
        omega
    · obtain ⟨p, hp, hq, e1, e2⟩ := h.at_ L.pm (show i < b.length by omega) (by omega)
      obtain ⟨u, hu, hv, e3, e4⟩ := h.at_ L.pm hj (by omega)
      rw [e2, e4, hhi p hp hq, hhi u hu hv]
      rcases Nat.lt_trichotomy p u with h1 | h1 | h1
      · exact L.so p u h1 hu
      · subst h1; omega
      · have := cnt_less (p := fun i => decide (k ≤ T i)) h1 (decide_eq_true hv)
        omega
/-- From a level to the next one. -/
theorem lvl_double {b : List Int} {k c : Nat} {T row T' : Nat → Nat} {r y : Nat → Int} (L : Lvl b k T r c) (hk : k < b.length) (hS : SecRow b.length k T row) (hP : Placed b.length row (fun j => (r (row j)).toNat) T')
    (hy : ∀ p, p < b.length → y (T' p) = (cnt (markT T' r (secL b.length k r)) (p + 1) : Int) - 1) : Lvl b (k + k) T' y (cnt (markT T' r (secL b.length k r)) b.length) := by
  obtain ⟨h1, h2⟩ := hS.ok L hk
  refine lvl_of (by have := L.kp; omega) (hP.perm h1) (hP.sorted (fun j hj => ?_) h2) hy (fun i j hi hj => lvl_key L hi hj)
  have := (L.lo _ (h1.lt j hj)).1
  show (((r (row j)).toNat : Nat) : Int) = r (row j)
  omega
/-- The first level. -/
theorem lvl_first {b : List Int} {T : Nat → Nat} {y : Nat → Int} (hb : ∀ x ∈ b, 0 ≤ x) (hP : Placed b.length id (fun j => (b.getD j 0).toNat) T)
    (hy : ∀ p, p < b.length → y (T p) = (cnt (markT T (fun i => b.getD i 0) (fun _ => 0)) (p + 1) : Int) - 1) : Lvl b 1 T y (cnt (markT T (fun i => b.getD i 0) (fun _ => 0)) b.length) := by
  have hid : PermT b.length id := ⟨fun p hp => hp, fun p q _ _ e => e⟩
  have hg : ∀ i, i < b.length → b.getD i 0 = b[i]?.getD 0 ∧ b.getD i 0 ∈ b := fun i hi => ⟨rfl, by
    rw [List.getD, List.getElem?_eq_getElem hi]
    exact List.getElem_mem hi⟩
  refine lvl_of (by omega) (hP.perm hid) (hP.sorted (a := fun i => b.getD i 0) (s := fun _ => 0) (fun j hj => ?_) (fun _ _ _ _ => Int.le_refl _)) hy (fun i j hi hj => ?_)
  · have := hb _ (hg j hj).2
    show (((b.getD j 0).toNat : Nat) : Int) = b.getD j 0
    omega
  · unfold Klt pre
    have e : ∀ i, i < b.length → (b.drop i).take 1 = [b.getD i 0] := fun i hi => by
      rw [List.drop_eq_getElem_cons hi, List.getD, List.getElem?_eq_getElem hi]
      rfl
    rw [e i hi, e j hj]
    simp [lexlt]
/-- The suffixes in order. -/
structure SaOk (b : List Int) (T : Nat → Nat) : Prop where
  pm : PermT b.length T
  so : ∀ p q, p < q → q < b.length → lexlt (b.drop (T p)) (b.drop (T q))
theorem lvl_end {b : List Int} {k c : Nat} {T : Nat → Nat} {r : Nat → Int} (L : Lvl b k T r c) (hc : ¬ c < b.length) : SaOk b T := by
  refine ⟨L.pm, fun p q hpq hq => ?_⟩
  have h1 := L.all (by have := L.cn; omega) p q hpq hq
  have h2 := (L.rk _ _ (L.pm.lt p (by omega)) (L.pm.lt q hq)).1 h1
  have h3 := (lexlt_split b.length k (b.drop (T p)) (b.drop (T q))).2 (.inl h2)
  rwa [List.take_of_length_le (by simp; omega), List.take_of_length_le (by simp; omega)] at h3
end Go.Proofs.Ytlcnbepldkbkgaa.Sx
