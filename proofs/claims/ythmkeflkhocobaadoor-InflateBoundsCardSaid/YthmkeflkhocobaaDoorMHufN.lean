/-
  Layer 9, huff: what stands in bits, by codes: the plain arithmetic. No program. No conditions beyond what each theorem names.
-/
import Derived.Test.YthmkeflkhocobaaDoorMHufT
namespace Go.Proofs.YthmkeflkhocobaaDoor.Huf
open Go.RowKit Go.Proofs.YthmkeflkhocobaaDoor.Kit Go.Proofs.YthmkeflkhocobaaDoor.Bits

/-- What bits tell, the highest first. -/
def mv (p : List Int) : Int := p.foldl (fun a b => 2 * a + b) 0

theorem mv_snoc (p : List Int) (b : Int) : mv (p ++ [b]) = 2 * mv p + b := by simp [mv]
theorem mv_bd {p : List Int} (h : Bit p) : 0 ≤ mv p ∧ mv p < 2 ^ p.length := by
  have gen : ∀ (q : List Int) (a : Int) (n : Nat), Bit q → (0 ≤ a ∧ a < 2 ^ n) → 0 ≤ q.foldl (fun a b => 2 * a + b) a ∧ q.foldl (fun a b => 2 * a + b) a < 2 ^ (n + q.length) := by
    intro q
    induction q with
    | nil => exact fun a n _ ha => ha
    | cons b q ih =>
      intro a n hb ha
      have hb0 := hb b (List.mem_cons_self ..)
      have := ih (2 * a + b) (n + 1) (fun x hx => hb x (List.mem_cons_of_mem _ hx)) (by rw [Int.pow_succ]; omega)
      rw [List.length_cons, show n + (q.length + 1) = n + 1 + q.length by omega]
      exact this
  have := gen p 0 0 h (by simp)
  rwa [Nat.zero_add] at this

/-- How much the codes below n bits take. -/
def pk (l : List Int) : Nat → Int
  | 0 => 0
  | n + 1 => pk l n + if n = 0 then 0 else cnt l n * 2 ^ (15 - n)

theorem pk_nil : ∀ n, pk [] n = 0
  | 0 => rfl
  | n + 1 => by rw [pk, pk_nil n]; simp [cnt]
theorem pk_cons (x : Int) (l : List Int) (hx : 0 ≤ x) : ∀ n, pk (x :: l) n = pk l n + if 0 < x ∧ x < n then 2 ^ (15 - x.toNat) else 0
  | 0 => by simp [pk]; omega
  | n + 1 => by
    rw [pk, pk, pk_cons x l hx n]
    by_cases h0 : n = 0
    · subst h0
      simp
      omega
    · rw [if_neg h0, if_neg h0, cnt]
      by_cases hxn : x = (n : Int)
      · subst hxn
        rw [if_pos rfl, if_neg (by omega), if_pos (by omega), Int.toNat_natCast, Int.add_mul]
        omega
      · rw [if_neg hxn]
        by_cases h1 : 0 < x ∧ x < (n : Int)
        · rw [if_pos h1, if_pos (by omega)]
          simp
          omega
        · rw [if_neg h1, if_neg (by omega)]
          simp
theorem kr_pk : ∀ (l : List Int), Octets l → (∀ n ∈ l, n ≤ 15) → kr l = pk l 16
  | [], _, _ => by rw [pk_nil]; rfl
  | x :: l, ho, h => by
    have hx := ho x (List.mem_cons_self ..)
    have hx2 := h x (List.mem_cons_self ..)
    rw [kr, pk_cons x l hx.1, kr_pk l (fun y hy => ho y (List.mem_cons_of_mem _ hy)) (fun y hy => h y (List.mem_cons_of_mem _ hy))]
    unfold part1
    by_cases h0 : 0 < x
    · rw [if_pos h0, if_pos (by omega)]; omega
    · rw [if_neg h0, if_neg (by omega)]; omega
theorem pk_mono (l : List Int) (n : Nat) : ∀ d, pk l n ≤ pk l (n + d)
  | 0 => Int.le_refl _
  | d + 1 => by
    have h1 := pk_mono l n d
    rw [← Nat.add_assoc, pk]
    have h2 := (cnt_bd l ((n + d : Nat) : Int)).1
    have h3 := p2_pos (15 - (n + d))
    have h4 : 0 ≤ cnt l ((n + d : Nat) : Int) * 2 ^ (15 - (n + d)) := Int.mul_nonneg h2 (by omega)
    split <;> omega
theorem fc_pk (l : List Int) : ∀ n, 1 ≤ n → n ≤ 15 → fc l n * 2 ^ (15 - n) = pk l n
  | 1, _, _ => by simp [fc, pk]
  | n + 2, _, h => by
    have ih := fc_pk l (n + 1) (by omega) (by omega)
    rw [fc, if_neg (by omega), pk, if_neg (by omega), ← ih, ← Int.add_mul]
    rw [show 15 - (n + 1) = (15 - (n + 2)) + 1 by omega, Int.pow_succ]
    generalize fc l (n + 1) + cnt l ((n + 1 : Nat) : Int) = a
    rw [Int.mul_comm 2 a, Int.mul_assoc, Int.mul_comm 2]

theorem kr_le {l : List Int} (h : mayB l = true) : kr l ≤ 32768 := by
  unfold mayB at h
  simp only [Bool.and_eq_true, Bool.or_eq_true, decide_eq_true_eq] at h
  rcases h.2 with h | h | h
  · omega
  · have hz : ∀ l : List Int, nz l = 0 → kr l = 0 := by
      intro l
      induction l with
      | nil => intro _; rfl
      | cons x l ih =>
        intro hn
        have := nz_bd l
        rw [nz] at hn
        by_cases h0 : 0 < x
        · rw [if_pos h0] at hn; omega
        · rw [if_neg h0] at hn
          rw [kr, ih (by omega), part1, if_neg h0]
          rfl
    rw [hz l h]
    omega
  · omega

/-- The codes of n bits end at 2^n. -/
theorem fc_cnt_le {l : List Int} (h : mayB l = true) (ho : Octets l) (n : Nat) (h1 : 1 ≤ n) (h15 : n ≤ 15) : fc l n + cnt l (n : Int) ≤ 2 ^ n := by
  have hk := kr_le h
  rw [kr_pk l ho (may_yes h).2] at hk
  have hm := pk_mono l (n + 1) (15 - n)
  rw [show n + 1 + (15 - n) = 16 by omega, pk, if_neg (by omega), ← fc_pk l n h1 h15, ← Int.add_mul] at hm
  have hp : (2 : Int) ^ n * 2 ^ (15 - n) = 32768 := by
    rw [← Int.pow_add, show n + (15 - n) = 15 by omega]
    decide
  have h0 := p2_pos (15 - n)
  exact Int.le_of_mul_le_mul_right (by omega) h0

/-- How many of the same length a symbol stands behind. -/
def rank (l : List Int) (s : Nat) : Int := cnt (l.take s) (l.getD s 0)

theorem rank_lt (l : List Int) (s : Nat) (h : s < l.length) : 0 ≤ rank l s ∧ rank l s < cnt l (l.getD s 0) := by
  have hsplit : l = l.take s ++ ([l.getD s 0] ++ l.drop (s + 1)) := by
    rw [← List.append_assoc, show l.getD s 0 = l[s] by simp [List.getD, h], ← take_snoc l s h, List.take_append_drop]
  have h1 := cnt_append (l.take s) ([l.getD s 0] ++ l.drop (s + 1)) (l.getD s 0)
  rw [← hsplit, cnt_append] at h1
  have h2 := cnt_bd (l.take s) (l.getD s 0)
  have h3 := cnt_bd (l.drop (s + 1)) (l.getD s 0)
  simp only [cnt, if_true] at h1
  unfold rank
  omega

theorem code_eq {l : List Int} (h : mayB l = true) (ho : Octets l) (s : Nat) (hs : s < l.length) (n : Nat) (h0 : 0 < n) (hn : l.getD s 0 = (n : Int)) :
    code l s = fc l n + rank l s ∧ 0 ≤ code l s ∧ code l s < fc l n + cnt l (n : Int) ∧ n ≤ 15 := by
  have hg : l.getD s 0 = l[s] := by simp [List.getD, hs]
  have h15 : n ≤ 15 := by have := (may_yes h).2 l[s] (List.getElem_mem hs); omega
  have hr := rank_lt l s hs
  rw [hn] at hr
  have hle := fc_cnt_le h ho n (by omega) h15
  have hfc := fc_15 l (may_yes h).1 n h15
  have hp : (2 : Int) ^ n ≤ 2 ^ 15 := p2_le h15
  rw [show (2 : Int) ^ 15 = 32768 by decide] at hp
  have e : code l s = fc l n + rank l s := by
    unfold code
    rw [hn, if_pos (by omega), Int.toNat_natCast]
    have : rank l s = cnt (l.take s) (n : Int) := by unfold rank; rw [hn]
    rw [← this]
    omega
  rw [e]
  exact ⟨rfl, by omega, by omega, h15⟩

/-- The symbol's code stands in front of the bits. -/
def Match (l : List Int) (s : Nat) (bits : List Int) : Prop := s < l.length ∧ ∃ n : Nat, 0 < n ∧ l.getD s 0 = (n : Int) ∧ n ≤ bits.length ∧ mv (bits.take n) = code l s
/-- The bits stand in front of the symbol's longer code. -/
def Pre (l : List Int) (s : Nat) (bits : List Int) : Prop := s < l.length ∧ ∃ n : Nat, 0 < n ∧ l.getD s 0 = (n : Int) ∧ bits.length < n ∧ mv bits = code l s / 2 ^ (n - bits.length)

theorem idx_rank (l : List Int) (n : Int) : ∀ (i : Nat), i ≤ l.length → ∀ (k : Nat) (s : Int), (idx l n i)[k]? = some s → ∃ j : Nat, s = (j : Int) ∧ j < i ∧ l.getD j 0 = n ∧ rank l j = (k : Int)
  | 0, _, k, s, h => by simp [idx] at h
  | i + 1, hi, k, s, h => by
    rw [idx_next] at h
    by_cases hn : l.getD i 0 = n
    · rw [if_pos hn] at h
      by_cases hk : k < (idx l n i).length
      · rw [List.getElem?_append_left hk] at h
        obtain ⟨j, h1, h2, h3, h4⟩ := idx_rank l n i (by omega) k s h
        exact ⟨j, h1, by omega, h3, h4⟩
      · rw [List.getElem?_append_right (by omega)] at h
        have hk2 : k - (idx l n i).length = 0 := by
          rcases Nat.eq_zero_or_pos (k - (idx l n i).length) with h' | h'
          · exact h'
          · rw [List.getElem?_eq_none (by simp; omega)] at h; cases h
        rw [hk2] at h
        simp at h
        refine ⟨i, h.symm, by omega, hn, ?_⟩
        unfold rank
        rw [hn, ← idx_length l n i (by omega)]
        omega
    · rw [if_neg hn] at h
      obtain ⟨j, h1, h2, h3, h4⟩ := idx_rank l n i (by omega) k s h
      exact ⟨j, h1, by omega, h3, h4⟩

/-- The k-th symbol of n bits. -/
theorem sym_at {l : List Int} (n : Nat) (k : Nat) (hk : (k : Int) < cnt l (n : Int)) : ∃ j : Nat, (idx l n l.length)[k]? = some (j : Int) ∧ j < l.length ∧ l.getD j 0 = (n : Int) ∧ rank l j = (k : Int) := by
  have hl := idx_length l n l.length (Nat.le_refl _)
  rw [List.take_of_length_le (Nat.le_refl _)] at hl
  have hlt : k < (idx l n l.length).length := by omega
  obtain ⟨j, h1, h2, h3, h4⟩ := idx_rank l n l.length (Nat.le_refl _) k _ (List.getElem?_eq_getElem hlt)
  exact ⟨j, by rw [List.getElem?_eq_getElem hlt, h1], h2, h3, h4⟩

/-- How many symbols are shorter than n bits. -/
def ahead (l : List Int) (n : Nat) : Int := ((syms l (n - 1)).length : Int)

theorem syms_prefix (l : List Int) (n : Nat) : ∀ d, ∃ t, syms l (n + d) = syms l n ++ t
  | 0 => ⟨[], by simp⟩
  | d + 1 => by
    obtain ⟨t, ht⟩ := syms_prefix l n d
    exact ⟨t ++ idx l ((n + d + 1 : Nat) : Int) l.length, by rw [← Nat.add_assoc, syms, ht, List.append_assoc]⟩
theorem syms_get {l : List Int} (n : Nat) (h1 : 1 ≤ n) (h15 : n ≤ 15) (k : Nat) (x : Int) (h : (idx l n l.length)[k]? = some x) : (syms l 15)[(syms l (n - 1)).length + k]? = some x := by
  obtain ⟨t, ht⟩ := syms_prefix l n (15 - n)
  rw [show n + (15 - n) = 15 by omega] at ht
  obtain ⟨m, rfl⟩ : ∃ m, n = m + 1 := ⟨n - 1, by omega⟩
  rw [ht, syms, Nat.add_sub_cancel, List.append_assoc, List.getElem?_append_right (by omega), Nat.add_sub_cancel_left]
  have hlt : k < (idx l ((m + 1 : Nat) : Int) l.length).length := by
    rcases Nat.lt_or_ge k (idx l ((m + 1 : Nat) : Int) l.length).length with h' | h'
    · exact h'
    · rw [List.getElem?_eq_none h'] at h; cases h
  rw [List.getElem?_append_left hlt]
  exact h
theorem ahead_next (l : List Int) (n : Nat) (h1 : 1 ≤ n) : ahead l (n + 1) = ahead l n + cnt l (n : Int) := by
  have hl := idx_length l n l.length (Nat.le_refl _)
  rw [List.take_of_length_le (Nat.le_refl _)] at hl
  obtain ⟨m, rfl⟩ : ∃ m, n = m + 1 := ⟨n - 1, by omega⟩
  unfold ahead
  rw [Nat.add_sub_cancel, Nat.add_sub_cancel, syms, List.length_append]
  omega
end Go.Proofs.YthmkeflkhocobaaDoor.Huf
