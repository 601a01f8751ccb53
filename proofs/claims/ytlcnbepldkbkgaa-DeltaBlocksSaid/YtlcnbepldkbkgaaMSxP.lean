/-
  Suffixes in order, by doubling: plain maths: rows as functions, counting, places, ranks. Conditions: as each theorem names.
-/
import Derived.Test.YtlcnbepldkbkgaaMOrdP
namespace Go.Proofs.Ytlcnbepldkbkgaa.Sx
open Go.Proofs.Ytlcnbepldkbkgaa.Ordr

/-! ### Rows as functions -/
def rowF (n : Nat) (f : Nat → Int) : List Int := (List.range n).map f
theorem rowF_length (n : Nat) (f : Nat → Int) : (rowF n f).length = n := by simp [rowF]
theorem rowF_getD {n i : Nat} (f : Nat → Int) (h : i < n) : (rowF n f).getD i 0 = f i := by
  unfold rowF
  rw [List.getD, List.getElem?_map, List.getElem?_range h]
  rfl
theorem row_ext {a b : List Int} (hl : a.length = b.length) (h : ∀ i, i < a.length → a.getD i 0 = b.getD i 0) : a = b := by
  refine List.ext_getElem hl fun i h1 h2 => ?_
  have := h i h1
  simpa [List.getD, List.getElem?_eq_getElem h1, List.getElem?_eq_getElem h2] using this
theorem set_getD (xs : List Int) (i : Nat) (x : Int) (k : Nat) : (xs.set i x).getD k 0 = if k = i ∧ i < xs.length then x else xs.getD k 0 := by
  simp only [List.getD, List.getElem?_set]
  by_cases h : i = k
  · subst h
    by_cases h2 : i < xs.length
    · simp [h2]
    · simp [h2]
  · rw [if_neg h, if_neg (fun h2 => h h2.1.symm)]
theorem rowF_set {n i : Nat} (f g : Nat → Int) (x : Int) (hi : i < n) (h : ∀ j, j < n → g j = if j = i then x else f j) : (rowF n f).set i x = rowF n g := by
  refine row_ext (by rw [List.length_set, rowF_length, rowF_length]) fun j hj => ?_
  rw [List.length_set, rowF_length] at hj
  rw [set_getD, rowF_length, rowF_getD _ hj, rowF_getD _ hj, h j hj]
  by_cases e : j = i
  · rw [if_pos ⟨e, hi⟩, if_pos e]
  · rw [if_neg (fun h => e h.1), if_neg e]
theorem rowF_congr {n : Nat} {f g : Nat → Int} (h : ∀ j, j < n → f j = g j) : rowF n f = rowF n g := by
  refine row_ext (by rw [rowF_length, rowF_length]) fun j hj => ?_
  rw [rowF_length] at hj
  rw [rowF_getD _ hj, rowF_getD _ hj, h j hj]
theorem rowF_zero (n : Nat) : List.replicate n (0 : Int) = rowF n fun _ => 0 := by
  refine row_ext (by simp [rowF_length]) fun j hj => ?_
  have hj' : j < n := by simpa using hj
  rw [rowF_getD _ hj']
  simp [List.getD, hj']

/-! ### Counting -/
def cnt (p : Nat → Bool) : Nat → Nat
  | 0 => 0
  | m + 1 => cnt p m + if p m = true then 1 else 0
theorem cnt_le (p : Nat → Bool) : ∀ m, cnt p m ≤ m
  | 0 => Nat.le_refl _
  | m + 1 => by have := cnt_le p m; unfold cnt; split <;> omega
theorem cnt_mono (p : Nat → Bool) {m k : Nat} (h : m ≤ k) : cnt p m ≤ cnt p k := by
  induction k with
  | zero => obtain rfl : m = 0 := by omega
            exact Nat.le_refl _
  | succ k ih =>
    by_cases hm : m ≤ k
    · have := ih hm; show cnt p m ≤ cnt p k + _; omega
    · obtain rfl : m = k + 1 := by omega
      exact Nat.le_refl _
theorem cnt_sub {p q : Nat → Bool} : ∀ m, (∀ j, j < m → p j = true → q j = true) → cnt p m ≤ cnt q m
  | 0, _ => Nat.le_refl _
  | m + 1, h => by
    have h1 := cnt_sub m (fun j hj => h j (by omega))
    have h2 := h m (by omega)
    unfold cnt
    by_cases hp : p m = true
    · rw [if_pos hp, if_pos (h2 hp)]; omega
    · rw [if_neg hp]; omega
theorem cnt_all {p : Nat → Bool} : ∀ m, (∀ j, j < m → p j = true) → cnt p m = m
  | 0, _ => rfl
  | m + 1, h => by unfold cnt; rw [cnt_all m (fun j hj => h j (by omega)), if_pos (h m (by omega))]
theorem cnt_none {p : Nat → Bool} {m : Nat} (h : ∀ j, j < m → p j = false) : cnt p m = 0 := by
  have := cnt_sub (p := p) (q := fun _ => false) m (fun j hj hp => by rw [h j hj] at hp; exact hp)
  have h2 : ∀ k, cnt (fun _ => false) k = 0 := fun k => by induction k with
    | zero => rfl
    | succ k ih => unfold cnt; rw [ih]; rfl
  rw [h2] at this
  omega
/-- Fewer than all: one isn't. -/
theorem cnt_miss {p : Nat → Bool} {m : Nat} (h : cnt p m < m) : ∃ j, j < m ∧ p j = false := by
  rcases Classical.em (∃ j, j < m ∧ p j = false) with h1 | h1
  · exact h1
  · have := cnt_all (p := p) m (fun j hj => by
      cases e : p j with
      | true => rfl
      | false => exact absurd ⟨j, hj, e⟩ h1)
    omega

/-! ### Places by ranks -/
section
variable (f : Nat → Nat) (n : Nat)
def start (v : Nat) : Nat := cnt (fun j => decide (f j < v)) n
def same (v m : Nat) : Nat := cnt (fun j => decide (f j = v)) m
def pos (j : Nat) : Nat := start f n (f j) + same f (f j) j
end
section
variable {f : Nat → Nat} {n : Nat}
theorem start_zero : start f n 0 = 0 := cnt_none fun j _ => decide_eq_false (by omega)
theorem start_succ (v : Nat) : ∀ m, start f m (v + 1) = start f m v + same f v m
  | 0 => rfl
  | m + 1 => by
    have ih := start_succ v m
    unfold start same at ih ⊢
    unfold cnt
    rw [ih]
    by_cases h1 : f m < v
    · rw [if_pos (decide_eq_true (by omega)), if_pos (decide_eq_true h1), if_neg (by simp; omega)]
      omega
    · by_cases h2 : f m = v
      · rw [if_pos (decide_eq_true (by omega)), if_neg (by simp; omega), if_pos (decide_eq_true h2)]
        omega
      · rw [if_neg (by simp; omega), if_neg (by simp; omega), if_neg (by simp; omega)]
        omega
theorem start_le (v : Nat) : start f n v ≤ n := cnt_le _ _
theorem start_mono {v u : Nat} (h : v ≤ u) : start f n v ≤ start f n u := cnt_sub _ fun j _ hp => decide_eq_true (by have := of_decide_eq_true hp; omega)
theorem same_succ (v m : Nat) : same f v (m + 1) = same f v m + if f m = v then 1 else 0 := by
  unfold same
  show _ + _ = _
  by_cases h : f m = v
  · rw [if_pos (decide_eq_true h), if_pos h]
  · rw [if_neg (by simpa using h), if_neg h]
theorem same_mono {v m k : Nat} (h : m ≤ k) : same f v m ≤ same f v k := cnt_mono _ h
theorem pos_next {j : Nat} (hj : j < n) : pos f n j < start f n (f j + 1) := by
  have h1 := same_succ (f := f) (f j) j
  rw [if_pos rfl] at h1
  have h2 := same_mono (f := f) (v := f j) (show j + 1 ≤ n by omega)
  have h3 := start_succ (f := f) (f j) n
  unfold pos
  omega
theorem pos_lt {j : Nat} (hj : j < n) : pos f n j < n := Nat.lt_of_lt_of_le (pos_next hj) (start_le _)
theorem pos_mono {i j : Nat} (hi : i < n) (h : f i < f j ∨ f i = f j ∧ i < j) : pos f n i < pos f n j := by
  rcases h with h | ⟨h1, h2⟩
  · have h3 := pos_next (f := f) hi
    have h4 := start_mono (f := f) (n := n) (show f i + 1 ≤ f j by omega)
    have : start f n (f j) ≤ pos f n j := Nat.le_add_right _ _
    omega
  · unfold pos
    rw [h1]
    have h3 := same_succ (f := f) (f j) i
    rw [if_pos h1] at h3
    have h4 := same_mono (f := f) (v := f j) (show i + 1 ≤ j by omega)
    omega
theorem pos_inj {i j : Nat} (hi : i < n) (hj : j < n) (e : pos f n i = pos f n j) : i = j := by
  rcases Nat.lt_trichotomy (f i) (f j) with h | h | h
  · have := pos_mono hi (j := j) (.inl h); omega
  · rcases Nat.lt_trichotomy i j with h2 | h2 | h2
    · have := pos_mono hi (j := j) (.inr ⟨h, h2⟩); omega
    · exact h2
    · have := pos_mono hj (j := i) (.inr ⟨h.symm, h2⟩); omega
  · have := pos_mono hj (j := i) (.inl h); omega
theorem pos_order {i j : Nat} (_ : i < n) (hj : j < n) (h : pos f n i < pos f n j) : f i < f j ∨ f i = f j ∧ i < j := by
  rcases Nat.lt_trichotomy (f i) (f j) with h1 | h1 | h1
  · exact .inl h1
  · rcases Nat.lt_trichotomy i j with h2 | h2 | h2
    · exact .inr ⟨h1, h2⟩
    · subst h2; omega
    · have := pos_mono hj (j := i) (.inr ⟨h1.symm, h2⟩); omega
  · have := pos_mono hj (j := i) (.inl h1); omega
end

/-- A row of all the numbers below n, each once. -/
structure PermT (n : Nat) (T : Nat → Nat) : Prop where
  lt : ∀ p, p < n → T p < n
  inj : ∀ p q, p < n → q < n → T p = T q → p = q
theorem PermT.onto {n : Nat} {T : Nat → Nat} (h : PermT n T) {i : Nat} (hi : i < n) : ∃ p, p < n ∧ T p = i := by
  have hok : OrderOk ((List.range n).map fun p => (T p : Int)) n := by
    refine ⟨by simp, fun x hx => ?_, ?_⟩
    · obtain ⟨p, hp, rfl⟩ := List.mem_map.1 hx
      have := h.lt p (List.mem_range.1 hp)
      omega
    · rw [List.nodup_iff_pairwise_ne, List.pairwise_map]
      refine (List.pairwise_lt_range (n := n)).imp_of_mem ?_
      intro a c ha hc hac e
      have := h.inj a c (List.mem_range.1 ha) (List.mem_range.1 hc) (by omega)
      omega
  obtain ⟨p, hp, e⟩ := List.mem_map.1 (order_has n _ hok i hi)
  exact ⟨p, List.mem_range.1 hp, by omega⟩
theorem perm_pos {f : Nat → Nat} {n : Nat} : PermT n (pos f n) := ⟨fun _ hp => pos_lt hp, fun _ _ hp hq e => pos_inj hp hq e⟩

/-- What a stable order by ranks comes to: T holds row's numbers, each at its place. -/
structure Placed (n : Nat) (row : Nat → Nat) (f : Nat → Nat) (T : Nat → Nat) : Prop where
  at_ : ∀ j, j < n → T (pos f n j) = row j
theorem Placed.perm {n : Nat} {row f T : Nat → Nat} (h : Placed n row f T) (hr : PermT n row) : PermT n T := by
  constructor
  · intro p hp
    obtain ⟨j, hj, rfl⟩ := (perm_pos (f := f)).onto hp
    rw [h.at_ j hj]
    exact hr.lt j hj
  · intro p q hp hq e
    obtain ⟨i, hi, rfl⟩ := (perm_pos (f := f)).onto hp
    obtain ⟨j, hj, rfl⟩ := (perm_pos (f := f)).onto hq
    rw [h.at_ i hi, h.at_ j hj] at e
    rw [hr.inj i j hi hj e]
/-- Two keys, one behind the other. -/
def Klt (a s : Nat → Int) (i j : Nat) : Prop := a i < a j ∨ a i = a j ∧ s i < s j
def KSorted (n : Nat) (T : Nat → Nat) (a s : Nat → Int) : Prop := ∀ p q, p < q → q < n → a (T p) < a (T q) ∨ a (T p) = a (T q) ∧ s (T p) ≤ s (T q)
theorem Placed.sorted {n : Nat} {row f T : Nat → Nat} {a s : Nat → Int} (h : Placed n row f T) (hf : ∀ j, j < n → (f j : Int) = a (row j)) (hs : ∀ i j, i < j → j < n → s (row i) ≤ s (row j)) : KSorted n T a s := by
  intro p q hpq hq
  obtain ⟨i, hi, rfl⟩ := (perm_pos (f := f)).onto (show p < n by omega)
  obtain ⟨j, hj, rfl⟩ := (perm_pos (f := f)).onto hq
  rw [h.at_ i hi, h.at_ j hj]
  have hfi := hf i hi
  have hfj := hf j hj
  rcases pos_order hi hj hpq with h1 | ⟨h1, h2⟩
  · exact .inl (by omega)
  · exact .inr ⟨by omega, hs i j h2 hj⟩

/-! ### New ranks -/
def markT (T : Nat → Nat) (a s : Nat → Int) (p : Nat) : Bool := decide (p = 0 ∨ a (T p) ≠ a (T (p - 1)) ∨ s (T p) ≠ s (T (p - 1)))
section
variable {n : Nat} {T : Nat → Nat} {a s : Nat → Int}
theorem mark_eq {p q : Nat} (hs : KSorted n T a s) (hpq : p ≤ q) (hq : q < n) (e1 : a (T p) = a (T q)) (e2 : s (T p) = s (T q)) : cnt (markT T a s) (q + 1) = cnt (markT T a s) (p + 1) := by
  induction q with
  | zero => obtain rfl : p = 0 := by omega
            rfl
  | succ q ih =>
    by_cases h : p = q + 1
    · subst h; rfl
    · have hm : a (T p) = a (T q) ∧ s (T p) = s (T q) := by
        have h2 := hs q (q + 1) (by omega) hq
        by_cases hpq2 : p = q
        · subst hpq2; exact ⟨rfl, rfl⟩
        · have h1 := hs p q (by omega) (by omega)
          omega
      have := ih (by omega) (by omega) hm.1 hm.2
      show cnt _ (q + 1) + _ = _
      rw [this, if_neg]
      · rfl
      · unfold markT
        simp only [decide_eq_true_eq, Nat.add_sub_cancel]
        omega
theorem mark_ne {p q : Nat} (_ : KSorted n T a s) (hpq : p < q) (hq : q < n) (e : ¬ (a (T p) = a (T q) ∧ s (T p) = s (T q))) : cnt (markT T a s) (p + 1) < cnt (markT T a s) (q + 1) := by
  induction q with
  | zero => omega
  | succ q ih =>
    by_cases h : a (T (q + 1)) = a (T q) ∧ s (T (q + 1)) = s (T q)
    · have hpq2 : p < q := by
        rcases Nat.lt_or_ge p q with h2 | h2
        · exact h2
        · obtain rfl : p = q := by omega
          exact absurd ⟨h.1.symm, h.2.symm⟩ e
      have := ih hpq2 (by omega) (by rw [← h.1, ← h.2]; exact e)
      have h3 := cnt_mono (markT T a s) (show q + 1 ≤ q + 1 + 1 by omega)
      omega
    · have h3 := cnt_mono (markT T a s) (show p + 1 ≤ q + 1 by omega)
      show _ < cnt _ (q + 1) + _
      rw [if_pos]
      · omega
      · unfold markT
        simp only [decide_eq_true_eq, Nat.add_sub_cancel]
        omega
/-- New ranks, by an order by two keys: they compare as the keys. -/
theorem ranks_cmp {r : Nat → Int} (hp : PermT n T) (hs : KSorted n T a s) (hr : ∀ p, p < n → r (T p) = (cnt (markT T a s) (p + 1) : Int) - 1) {i j : Nat} (hi : i < n) (hj : j < n) : r i < r j ↔ Klt a s i j := by
  obtain ⟨p, hpn, rfl⟩ := hp.onto hi
  obtain ⟨q, hqn, rfl⟩ := hp.onto hj
  rw [hr p hpn, hr q hqn]
  unfold Klt
  rcases Nat.lt_trichotomy p q with h | h | h
  · have h1 := hs p q h hqn
    by_cases e : a (T p) = a (T q) ∧ s (T p) = s (T q)
    · have := mark_eq hs (by omega) hqn e.1 e.2
      omega
    · have := mark_ne hs h hqn e
      omega
  · subst h; omega
  · have h1 := hs q p h hpn
    have h2 := cnt_mono (markT T a s) (show q + 1 ≤ p + 1 by omega)
    omega
theorem mark_zero : markT T a s 0 = true := decide_eq_true (.inl rfl)
theorem cnt_pos (p : Nat) : 1 ≤ cnt (markT T a s) (p + 1) := by
  have := cnt_mono (markT T a s) (show 0 + 1 ≤ p + 1 by omega)
  have h2 : cnt (markT T a s) (0 + 1) = 1 := by unfold cnt; rw [if_pos mark_zero]; rfl
  omega
end

/-! ### Which text is less -/
def lexlt : List Int → List Int → Prop
  | [], [] => False
  | [], _ :: _ => True
  | _ :: _, [] => False
  | x :: X, y :: Y => x < y ∨ x = y ∧ lexlt X Y
theorem lexlt_irr : ∀ X, ¬ lexlt X X
  | [], h => h
  | x :: X, h => by
    unfold lexlt at h
    rcases h with h | ⟨_, h⟩
    · omega
    · exact lexlt_irr X h
theorem lexlt_total : ∀ X Y, lexlt X Y ∨ X = Y ∨ lexlt Y X
  | [], [] => .inr (.inl rfl)
  | [], _ :: _ => .inl trivial
  | _ :: _, [] => .inr (.inr trivial)
  | x :: X, y :: Y => by
    unfold lexlt
    rcases Int.lt_trichotomy x y with h | h | h
    · exact .inl (.inl h)
    · subst h
      rcases lexlt_total X Y with h | h | h
      · exact .inl (.inr ⟨rfl, h⟩)
      · exact .inr (.inl (by rw [h]))
      · exact .inr (.inr (.inr ⟨rfl, h⟩))
    · exact .inr (.inr (.inl h))
theorem lexlt_split (m : Nat) : ∀ (k : Nat) (X Y : List Int), lexlt (X.take (k + m)) (Y.take (k + m)) ↔ lexlt (X.take k) (Y.take k) ∨ X.take k = Y.take k ∧ lexlt ((X.drop k).take m) ((Y.drop k).take m)
  | 0, X, Y => by simp [lexlt]
  | k + 1, [], [] => by simp [lexlt]
  | k + 1, [], y :: Y => by
    rw [show k + 1 + m = (k + m) + 1 by omega]
    simp [lexlt]
  | k + 1, x :: X, [] => by
    rw [show k + 1 + m = (k + m) + 1 by omega]
    simp [lexlt]
  | k + 1, x :: X, y :: Y => by
    rw [show k + 1 + m = (k + m) + 1 by omega]
    simp only [List.take_succ_cons, List.drop_succ_cons, lexlt, List.cons.injEq]
    rw [lexlt_split m k X Y]
    constructor
    · rintro (h | ⟨h, h2 | ⟨h2, h3⟩⟩)
      · exact .inl (.inl h)
      · exact .inl (.inr ⟨h, h2⟩)
      · exact .inr ⟨⟨h, h2⟩, h3⟩
    · rintro ((h | ⟨h, h2⟩) | ⟨⟨h, h2⟩, h3⟩)
      · exact .inl h
      · exact .inr ⟨h, .inl h2⟩
      · exact .inr ⟨h, .inr ⟨h2, h3⟩⟩

/-! ### A level: all is in order by the first k bytes -/
def pre (b : List Int) (k i : Nat) : List Int := (b.drop i).take k
structure Lvl (b : List Int) (k : Nat) (T : Nat → Nat) (r : Nat → Int) (c : Nat) : Prop where
  kp : 0 < k
  pm : PermT b.length T
  rk : ∀ i j, i < b.length → j < b.length → (r i < r j ↔ lexlt (pre b k i) (pre b k j))
  so : ∀ p q, p < q → q < b.length → r (T p) ≤ r (T q)
  lo : ∀ i, i < b.length → 0 ≤ r i ∧ r i < c
  cn : c ≤ b.length
  dup : c < b.length → ∃ i j, i < b.length ∧ j < b.length ∧ i ≠ j ∧ r i = r j
  all : c = b.length → ∀ p q, p < q → q < b.length → r (T p) < r (T q)
theorem lvl_of {b : List Int} {k : Nat} {T : Nat → Nat} {a s r : Nat → Int} (hk : 0 < k) (hp : PermT b.length T) (hs : KSorted b.length T a s) (hr : ∀ p, p < b.length → r (T p) = (cnt (markT T a s) (p + 1) : Int) - 1)
    (hK : ∀ i j, i < b.length → j < b.length → (Klt a s i j ↔ lexlt (pre b k i) (pre b k j))) : Lvl b k T r (cnt (markT T a s) b.length) := by
  have hmono : ∀ p q, p < q → q < b.length → r (T p) ≤ r (T q) := fun p q hpq hq => by
    rw [hr p (by omega), hr q hq]
    have := cnt_mono (markT T a s) (show p + 1 ≤ q + 1 by omega)
    omega
  refine ⟨hk, hp, fun i j hi hj => (ranks_cmp hp hs hr hi hj).trans (hK i j hi hj), hmono, fun i hi => ?_, cnt_le _ _, fun h => ?_, fun h p q hpq hq => ?_⟩
  · obtain ⟨p, hpn, rfl⟩ := hp.onto hi
    rw [hr p hpn]
    have h1 := cnt_pos (T := T) (a := a) (s := s) p
    have h2 := cnt_mono (markT T a s) (show p + 1 ≤ b.length by omega)
    omega
  · obtain ⟨p, hpn, hm⟩ := cnt_miss h
    unfold markT at hm
    have hm := of_decide_eq_false hm
    refine ⟨T p, T (p - 1), hp.lt p hpn, hp.lt _ (by omega), fun e => ?_, ?_⟩
    · have := hp.inj p (p - 1) hpn (by omega) e
      omega
    · rw [hr p hpn, hr (p - 1) (by omega), mark_eq (p := p - 1) (q := p) hs (by omega) hpn (by omega) (by omega)]
  · rcases Int.lt_or_le (r (T p)) (r (T q)) with h1 | h1
    · exact h1
    · exfalso
      have h2 := hmono p q hpq hq
      rw [hr p (by omega), hr q hq] at h1
      -- a place between without a mark
      have h3 : cnt (markT T a s) b.length < b.length := by
        have hm : markT T a s q = false := by
          cases e : markT T a s q with
          | false => rfl
          | true =>
            have h4 : cnt (markT T a s) (q + 1) = cnt (markT T a s) q + 1 := by show _ + _ = _; rw [if_pos e]
            have h5 := cnt_mono (markT T a s) (show p + 1 ≤ q by omega)
            omega
        have h4 : cnt (markT T a s) (q + 1) ≤ q := by
          have : cnt (markT T a s) (q + 1) = cnt (markT T a s) q := by show _ + _ = _; rw [hm]; rfl
          rw [this]; exact cnt_le _ _
        have h6 : ∀ m, q + 1 ≤ m → cnt (markT T a s) m < m := fun m hm2 => by
          induction m with
          | zero => omega
          | succ m ih =>
            by_cases h7 : q + 1 ≤ m
            · have := ih h7
              show _ + _ < _
              split <;> omega
            · obtain rfl : m = q := by omega
              omega
        exact h6 _ (by omega)
      omega

theorem lvl_eq {b : List Int} {k : Nat} {T : Nat → Nat} {r : Nat → Int} {c : Nat} (h : Lvl b k T r c) {i j : Nat} (hi : i < b.length) (hj : j < b.length) : r i = r j ↔ pre b k i = pre b k j := by
  have h1 := h.rk i j hi hj
  have h2 := h.rk j i hj hi
  constructor
  · intro e
    rcases lexlt_total (pre b k i) (pre b k j) with h3 | h3 | h3
    · have := h1.2 h3; omega
    · exact h3
    · have := h2.2 h3; omega
  · intro e
    rw [e] at h1 h2
    have h3 : ¬ r i < r j := fun h => lexlt_irr _ (h1.1 h)
    have h4 : ¬ r j < r i := fun h => lexlt_irr _ (h2.1 h)
    omega
/-- As long as two share a rank, k is less than the text. -/
theorem lvl_short {b : List Int} {k : Nat} {T : Nat → Nat} {r : Nat → Int} {c : Nat} (h : Lvl b k T r c) (hc : c < b.length) : k < b.length := by
  obtain ⟨i, j, hi, hj, hij, e⟩ := h.dup hc
  have e2 := (lvl_eq h hi hj).1 e
  rcases Nat.lt_or_ge k b.length with h1 | h1
  · exact h1
  · exfalso
    unfold pre at e2
    have := congrArg List.length e2
    simp at this
    omega
/-- The second key, by a level. -/
def secL (n k : Nat) (r : Nat → Int) (i : Nat) : Int := if n ≤ i + k then -1 else r (i + k)
theorem lvl_key {b : List Int} {k : Nat} {T : Nat → Nat} {r : Nat → Int} {c : Nat} (h : Lvl b k T r c) {i j : Nat} (hi : i < b.length) (hj : j < b.length) : Klt r (secL b.length k r) i j ↔ lexlt (pre b (k + k) i) (pre b (k + k) j) := by
  unfold Klt
  have e := lvl_eq h hi hj
  unfold pre at e ⊢
  rw [lexlt_split k k, h.rk i j hi hj, e]
  unfold pre
  refine or_congr Iff.rfl (and_congr Iff.rfl ?_)
  rw [List.drop_drop, List.drop_drop]
  unfold secL
  by_cases h1 : b.length ≤ i + k
  · rw [if_pos h1, List.drop_of_length_le h1]
    by_cases h2 : b.length ≤ j + k
    · rw [if_pos h2, List.drop_of_length_le h2]
      simp [lexlt]
    · rw [if_neg h2]
      have h3 := (h.lo (j + k) (by omega)).1
      constructor
      · intro _
        have hlen : 0 < ((b.drop (j + k)).take k).length := by have := h.kp; simp; omega
        cases e2 : (b.drop (j + k)).take k with
        | nil => rw [e2] at hlen; simp at hlen
        | cons y Y => rw [List.take_nil]; trivial
      · intro _; omega
  · rw [if_neg h1]
    by_cases h2 : b.length ≤ j + k
    · rw [if_pos h2, List.drop_of_length_le h2]
      have h3 := (h.lo (i + k) (by omega)).1
      constructor
      · intro h4; omega
      · intro h4
        rw [List.take_nil] at h4
        cases e2 : (b.drop (i + k)).take k with
        | nil => rw [e2] at h4; exact absurd h4 (by simp [lexlt])
        | cons y Y => rw [e2] at h4; exact absurd h4 (by simp [lexlt])
    · rw [if_neg h2]
      exact h.rk (i + k) (j + k) (by omega) (by omega)
end Go.Proofs.Ytlcnbepldkbkgaa.Sx
