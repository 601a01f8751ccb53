/-
  Layer 9, huff: what stands in bits, by codes: the plain arithmetic. No program. No conditions beyond what each theorem names.
  Layer 9, huff: the symbol that stands in bits: plain. No program. No conditions beyond what each theorem names.
  Layer 9, huff: one symbol at most stands in bits; a code bit by bit: plain. No program. No conditions beyond what each theorem names.
  Layer 9, huff: a bit of Next's search: plain. No program. No conditions beyond what each theorem names.
  Layer 9, huff: the document's search, symbol by symbol: plain. No program. No conditions beyond what each theorem names.
-/
import Derived.Test.YthflefdchgpbdaaDoorMHufT
namespace Go.Proofs.YthflefdchgpbdaaDoor.Huf
open Go.RowKit Go.Proofs.YthflefdchgpbdaaDoor.Kit Go.Proofs.YthflefdchgpbdaaDoor.Bits

/-- What bits tell, the highest first. -/
def mv (p : List Int) : Int := p.foldl (fun a b => 2 * a + b) 0

theorem mv_snoc (p : List Int) (b : Int) : mv (p ++ [b]) = 2 * mv p + b := by simp [mv]
theorem mv_bd {p : List Int} (h : Bit p) : 0 ≤ mv p ∧ mv p < 2 ^ p.length := by
  have gen : ∀ (q : List Int) (a : Int) (n : Nat), Bit q → (0 ≤ a ∧ a < 2 ^ n) → 0 ≤ q.foldl (fun a b => 2 * a + b) a ∧ q.foldl (fun a b => 2 * a + b) a < 2 ^ (n + q.length) := by
    intro q
    induction q with
    | nil => exact fun a n _ ha => ha
    | cons b q ih =>
      intro a n hb ha
      have hb0 := hb b (List.mem_cons_self ..)
      have := ih (2 * a + b) (n + 1) (fun x hx => hb x (List.mem_cons_of_mem _ hx)) (by rw [Int.pow_succ]; omega)
      rw [List.length_cons, show n + (q.length + 1) = n + 1 + q.length by omega]
      exact this
  have := gen p 0 0 h (by simp)
  rwa [Nat.zero_add] at this

/-- How much the codes below n bits take. -/
def pk (l : List Int) : Nat → Int
  | 0 => 0
  | n + 1 => pk l n + if n = 0 then 0 else cnt l n * 2 ^ (15 - n)

theorem pk_nil : ∀ n, pk [] n = 0
  | 0 => rfl
  | n + 1 => by rw [pk, pk_nil n]; simp [cnt]
theorem pk_cons (x : Int) (l : List Int) (hx : 0 ≤ x) : ∀ n, pk (x :: l) n = pk l n + if 0 < x ∧ x < n then 2 ^ (15 - x.toNat) else 0
  | 0 => by simp [pk]; omega
  | n + 1 => by
    rw [pk, pk, pk_cons x l hx n]
    by_cases h0 : n = 0
    · subst h0
      simp
      omega
    · rw [if_neg h0, if_neg h0, cnt]
      by_cases hxn : x = (n : Int)
      · subst hxn
        rw [if_pos rfl, if_neg (by omega), if_pos (by omega), Int.toNat_natCast, Int.add_mul]
        omega
      · rw [if_neg hxn]
        by_cases h1 : 0 < x ∧ x < (n : Int)
        · rw [if_pos h1, if_pos (by omega)]
          simp
          omega
        · rw [if_neg h1, if_neg (by omega)]
          simp
theorem kr_pk : ∀ (l : List Int), Octets l → (∀ n ∈ l, n ≤ 15) → kr l = pk l 16
  | [], _, _ => by rw [pk_nil]; rfl
  | x :: l, ho, h => by
    have hx := ho x (List.mem_cons_self ..)
    have hx2 := h x (List.mem_cons_self ..)
    rw [kr, pk_cons x l hx.1, kr_pk l (fun y hy => ho y (List.mem_cons_of_mem _ hy)) (fun y hy => h y (List.mem_cons_of_mem _ hy))]
    unfold part1
    by_cases h0 : 0 < x
    · rw [if_pos h0, if_pos (by omega)]; omega
    · rw [if_neg h0, if_neg (by omega)]; omega
theorem pk_mono (l : List Int) (n : Nat) : ∀ d, pk l n ≤ pk l (n + d)
  | 0 => Int.le_refl _
  | d + 1 => by
    have h1 := pk_mono l n d
    rw [← Nat.add_assoc, pk]
    have h2 := (cnt_bd l ((n + d : Nat) : Int)).1
    have h3 := p2_pos (15 - (n + d))
    have h4 : 0 ≤ cnt l ((n + d : Nat) : Int) * 2 ^ (15 - (n + d)) := Int.mul_nonneg h2 (by omega)
    split <;> omega
theorem fc_pk (l : List Int) : ∀ n, 1 ≤ n → n ≤ 15 → fc l n * 2 ^ (15 - n) = pk l n
  | 1, _, _ => by simp [fc, pk]
  | n + 2, _, h => by
    have ih := fc_pk l (n + 1) (by omega) (by omega)
    rw [fc, if_neg (by omega), pk, if_neg (by omega), ← ih, ← Int.add_mul]
    rw [show 15 - (n + 1) = (15 - (n + 2)) + 1 by omega, Int.pow_succ]
    generalize fc l (n + 1) + cnt l ((n + 1 : Nat) : Int) = a
    rw [Int.mul_comm 2 a, Int.mul_assoc, Int.mul_comm 2]

theorem kr_le {l : List Int} (h : mayB l = true) : kr l ≤ 32768 := by
  unfold mayB at h
  simp only [Bool.and_eq_true, Bool.or_eq_true, decide_eq_true_eq] at h
  rcases h.2 with h | h | h
  · omega
  · have hz : ∀ l : List Int, nz l = 0 → kr l = 0 := by
      intro l
      induction l with
      | nil => intro _; rfl
      | cons x l ih =>
        intro hn
        have := nz_bd l
        rw [nz] at hn
        by_cases h0 : 0 < x
        · rw [if_pos h0] at hn; omega
        · rw [if_neg h0] at hn
          rw [kr, ih (by omega), part1, if_neg h0]
          rfl
    rw [hz l h]
    omega
  · omega

/-- The codes of n bits end at 2^n. -/
theorem fc_cnt_le {l : List Int} (h : mayB l = true) (ho : Octets l) (n : Nat) (h1 : 1 ≤ n) (h15 : n ≤ 15) : fc l n + cnt l (n : Int) ≤ 2 ^ n := by
  have hk := kr_le h
  rw [kr_pk l ho (may_yes h).2] at hk
  have hm := pk_mono l (n + 1) (15 - n)
  rw [show n + 1 + (15 - n) = 16 by omega, pk, if_neg (by omega), ← fc_pk l n h1 h15, ← Int.add_mul] at hm
  have hp : (2 : Int) ^ n * 2 ^ (15 - n) = 32768 := by
    rw [← Int.pow_add, show n + (15 - n) = 15 by omega]
    decide
  have h0 := p2_pos (15 - n)
  exact Int.le_of_mul_le_mul_right (by omega) h0

/-- How many of the same length a symbol stands behind. -/
def rank (l : List Int) (s : Nat) : Int := cnt (l.take s) (l.getD s 0)

theorem rank_lt (l : List Int) (s : Nat) (h : s < l.length) : 0 ≤ rank l s ∧ rank l s < cnt l (l.getD s 0) := by
  have hsplit : l = l.take s ++ ([l.getD s 0] ++ l.drop (s + 1)) := by
    rw [← List.append_assoc, show l.getD s 0 = l[s] by simp [List.getD, h], ← take_snoc l s h, List.take_append_drop]
  have h1 := cnt_append (l.take s) ([l.getD s 0] ++ l.drop (s + 1)) (l.getD s 0)
  rw [← hsplit, cnt_append] at h1
  have h2 := cnt_bd (l.take s) (l.getD s 0)
  have h3 := cnt_bd (l.drop (s + 1)) (l.getD s 0)
  simp only [cnt, if_true] at h1
  unfold rank
  omega

theorem code_eq {l : List Int} (h : mayB l = true) (ho : Octets l) (s : Nat) (hs : s < l.length) (n : Nat) (h0 : 0 < n) (hn : l.getD s 0 = (n : Int)) :
    code l s = fc l n + rank l s ∧ 0 ≤ code l s ∧ code l s < fc l n + cnt l (n : Int) ∧ n ≤ 15 := by
  have hg : l.getD s 0 = l[s] := by simp [List.getD, hs]
  have h15 : n ≤ 15 := by have := (may_yes h).2 l[s] (List.getElem_mem hs); omega
  have hr := rank_lt l s hs
  rw [hn] at hr
  have hle := fc_cnt_le h ho n (by omega) h15
  have hfc := fc_15 l (may_yes h).1 n h15
  have hp : (2 : Int) ^ n ≤ 2 ^ 15 := p2_le h15
  rw [show (2 : Int) ^ 15 = 32768 by decide] at hp
  have e : code l s = fc l n + rank l s := by
    unfold code
    rw [hn, if_pos (by omega), Int.toNat_natCast]
    have : rank l s = cnt (l.take s) (n : Int) := by unfold rank; rw [hn]
    rw [← this]
    omega
  rw [e]
  exact ⟨rfl, by omega, by omega, h15⟩

/-- The symbol's code stands in front of the bits. -/
def Match (l : List Int) (s : Nat) (bits : List Int) : Prop := s < l.length ∧ ∃ n : Nat, 0 < n ∧ l.getD s 0 = (n : Int) ∧ n ≤ bits.length ∧ mv (bits.take n) = code l s
/-- The bits stand in front of the symbol's longer code. -/
def Pre (l : List Int) (s : Nat) (bits : List Int) : Prop := s < l.length ∧ ∃ n : Nat, 0 < n ∧ l.getD s 0 = (n : Int) ∧ bits.length < n ∧ mv bits = code l s / 2 ^ (n - bits.length)

theorem idx_rank (l : List Int) (n : Int) : ∀ (i : Nat), i ≤ l.length → ∀ (k : Nat) (s : Int), (idx l n i)[k]? = some s → ∃ j : Nat, s = (j : Int) ∧ j < i ∧ l.getD j 0 = n ∧ rank l j = (k : Int)
  | 0, _, k, s, h => by simp [idx] at h
  | i + 1, hi, k, s, h => by
    rw [idx_next] at h
    by_cases hn : l.getD i 0 = n
    · rw [if_pos hn] at h
      by_cases hk : k < (idx l n i).length
      · rw [List.getElem?_append_left hk] at h
        obtain ⟨j, h1, h2, h3, h4⟩ := idx_rank l n i (by omega) k s h
        exact ⟨j, h1, by omega, h3, h4⟩
      · rw [List.getElem?_append_right (by omega)] at h
        have hk2 : k - (idx l n i).length = 0 := by
          rcases Nat.eq_zero_or_pos (k - (idx l n i).length) with h' | h'
          · exact h'
          · rw [List.getElem?_eq_none (by simp; omega)] at h; cases h
        rw [hk2] at h
        simp at h
        refine ⟨i, h.symm, by omega, hn, ?_⟩
        unfold rank
        rw [hn, ← idx_length l n i (by omega)]
        omega
    · rw [if_neg hn] at h
      obtain ⟨j, h1, h2, h3, h4⟩ := idx_rank l n i (by omega) k s h
      exact ⟨j, h1, by omega, h3, h4⟩

/-- The k-th symbol of n bits. -/
theorem sym_at {l : List Int} (n : Nat) (k : Nat) (hk : (k : Int) < cnt l (n : Int)) : ∃ j : Nat, (idx l n l.length)[k]? = some (j : Int) ∧ j < l.length ∧ l.getD j 0 = (n : Int) ∧ rank l j = (k : Int) := by
  have hl := idx_length l n l.length (Nat.le_refl _)
  rw [List.take_of_length_le (Nat.le_refl _)] at hl
  have hlt : k < (idx l n l.length).length := by omega
  obtain ⟨j, h1, h2, h3, h4⟩ := idx_rank l n l.length (Nat.le_refl _) k _ (List.getElem?_eq_getElem hlt)
  exact ⟨j, by rw [List.getElem?_eq_getElem hlt, h1], h2, h3, h4⟩

/-- How many symbols are shorter than n bits. -/
def ahead (l : List Int) (n : Nat) : Int := ((syms l (n - 1)).length : Int)

theorem syms_prefix (l : List Int) (n : Nat) : ∀ d, ∃ t, syms l (n + d) = syms l n ++ t
  | 0 => ⟨[], by simp⟩
  | d + 1 => by
    obtain ⟨t, ht⟩ := syms_prefix l n d
    exact ⟨t ++ idx l ((n + d + 1 : Nat) : Int) l.length, by rw [← Nat.add_assoc, syms, ht, List.append_assoc]⟩
theorem syms_get {l : List Int} (n : Nat) (h1 : 1 ≤ n) (h15 : n ≤ 15) (k : Nat) (x : Int) (h : (idx l n l.length)[k]? = some x) : (syms l 15)[(syms l (n - 1)).length + k]? = some x := by
  obtain ⟨t, ht⟩ := syms_prefix l n (15 - n)
  rw [show n + (15 - n) = 15 by omega] at ht
  obtain ⟨m, rfl⟩ : ∃ m, n = m + 1 := ⟨n - 1, by omega⟩
  rw [ht, syms, Nat.add_sub_cancel, List.append_assoc, List.getElem?_append_right (by omega), Nat.add_sub_cancel_left]
  have hlt : k < (idx l ((m + 1 : Nat) : Int) l.length).length := by
    rcases Nat.lt_or_ge k (idx l ((m + 1 : Nat) : Int) l.length).length with h' | h'
    · exact h'
    · rw [List.getElem?_eq_none h'] at h; cases h
  rw [List.getElem?_append_left hlt]
  exact h
theorem ahead_next (l : List Int) (n : Nat) (h1 : 1 ≤ n) : ahead l (n + 1) = ahead l n + cnt l (n : Int) := by
  have hl := idx_length l n l.length (Nat.le_refl _)
  rw [List.take_of_length_le (Nat.le_refl _)] at hl
  obtain ⟨m, rfl⟩ : ∃ m, n = m + 1 := ⟨n - 1, by omega⟩
  unfold ahead
  rw [Nat.add_sub_cancel, Nat.add_sub_cancel, syms, List.length_append]
  omega
end Go.Proofs.YthflefdchgpbdaaDoor.Huf

namespace Go.Proofs.YthflefdchgpbdaaDoor.Huf
open Go.RowKit Go.Proofs.YthflefdchgpbdaaDoor.Kit Go.Proofs.YthflefdchgpbdaaDoor.Bits

/-- What is told of bits: a symbol and its length, that bits lack, or that there is none. -/
inductive Told where
  | sym (s : Int) (n : Nat)
  | short
  | form

/-- The program's search, from length n on, c being told by the bits ahead. -/
def go (l : List Int) : Nat → Nat → Int → List Int → Told
  | 0, _, _, _ => .form
  | fuel + 1, n, c, bits =>
    if mostOf l 15 < (n : Int) then .form else
    match bits with
    | [] => .short
    | b :: rest => if 2 * c + b - fc l n < cnt l (n : Int) then .sym ((syms l 15)[(ahead l n + (2 * c + b) - fc l n).toNat]?.getD 0) n else go l fuel (n + 1) (2 * c + b) rest

theorem go_succ (l : List Int) (fuel n : Nat) (c : Int) (bits : List Int) : go l (fuel + 1) n c bits = if mostOf l 15 < (n : Int) then .form else
    match bits with
    | [] => .short
    | b :: rest => if 2 * c + b - fc l n < cnt l (n : Int) then .sym ((syms l 15)[(ahead l n + (2 * c + b) - fc l n).toNat]?.getD 0) n else go l fuel (n + 1) (2 * c + b) rest := by
  cases bits <;> rfl

theorem most_ge (l : List Int) (n : Nat) (h1 : 1 ≤ n) (hc : cnt l (n : Int) ≠ 0) : ∀ d, (n : Int) ≤ mostOf l (n + d)
  | 0 => by
    obtain ⟨m, rfl⟩ : ∃ m, n = m + 1 := ⟨n - 1, by omega⟩
    rw [Nat.add_zero, mostOf, if_neg hc]
    omega
  | d + 1 => by
    have := most_ge l n h1 hc d
    rw [← Nat.add_assoc, mostOf]
    split <;> omega
theorem most_le (l : List Int) : ∀ n, 0 ≤ mostOf l n ∧ mostOf l n ≤ n
  | 0 => by simp [mostOf]
  | n + 1 => by
    have := most_le l n
    rw [mostOf]
    split <;> omega
theorem most_cnt (l : List Int) : ∀ n, mostOf l n = 0 ∨ ∃ m : Nat, mostOf l n = (m : Int) ∧ 1 ≤ m ∧ m ≤ n ∧ cnt l (m : Int) ≠ 0
  | 0 => .inl rfl
  | n + 1 => by
    rw [mostOf]
    by_cases h : cnt l ((n + 1 : Nat) : Int) = 0
    · rw [if_pos h]
      rcases most_cnt l n with h' | ⟨m, h1, h2, h3, h4⟩
      · exact .inl h'
      · exact .inr ⟨m, h1, h2, by omega, h4⟩
    · rw [if_neg h]
      exact .inr ⟨n + 1, rfl, by omega, Nat.le_refl _, h⟩
theorem cnt_mem {l : List Int} {n : Int} (h : cnt l n ≠ 0) : n ∈ l := by
  induction l with
  | nil => simp [cnt] at h
  | cons x l ih =>
    rw [cnt] at h
    by_cases hx : x = n
    · rw [hx]; exact List.mem_cons_self ..
    · rw [if_neg hx] at h
      exact List.mem_cons_of_mem _ (ih (by omega))
theorem cnt_of_sym {l : List Int} (s : Nat) (hs : s < l.length) (n : Nat) (hn : l.getD s 0 = (n : Int)) : cnt l (n : Int) ≠ 0 := by
  have := rank_lt l s hs
  rw [hn] at this
  omega

/-- One code: its length is 1. -/
theorem one_code {l : List Int} (hz : nz l = 1) (hk : kr l = 16384) {m : Int} (hm : m ∈ l) (h0 : 0 < m) : m = 1 := by
  have hz0 : ∀ l : List Int, nz l = 0 → kr l = 0 := by
    intro l
    induction l with
    | nil => intro _; rfl
    | cons x l ih =>
      intro hn
      have := nz_bd l
      rw [nz] at hn
      by_cases h0 : 0 < x
      · rw [if_pos h0] at hn; omega
      · rw [if_neg h0] at hn
        rw [kr, ih (by omega), part1, if_neg h0]
        rfl
  obtain ⟨a, b, rfl⟩ := List.append_of_mem hm
  rw [nz_append, nz, if_pos h0] at hz
  have h1 := nz_bd a
  have h2 := nz_bd b
  rw [kr_append, kr, hz0 a (by omega), hz0 b (by omega)] at hk
  by_cases h15 : m ≤ 15
  · exact (part1_one h0 h15).1 (by omega)
  · unfold part1 at hk
    rw [if_pos h0, show 15 - m.toNat = 0 by omega] at hk
    simp at hk

/-- Bits that no code stands in front of are in front of a code, while there are longer ones. -/
theorem short_lt {l : List Int} (h : mayB l = true) (p : List Int) (hp : Bit p) (hL : p.length < 15) (hn : ((p.length + 1 : Nat) : Int) ≤ mostOf l 15) : mv p * 2 ^ (15 - p.length) < kr l := by
  have hmay := h
  unfold mayB at h
  simp only [Bool.and_eq_true, Bool.or_eq_true, decide_eq_true_eq] at h
  have hb := mv_bd hp
  have h0 := p2_pos (15 - p.length)
  rcases most_cnt l 15 with hm | ⟨m, hm, h1, h2, h3⟩
  · omega
  · have hmem := cnt_mem h3
    rcases h.2 with hk | hk | ⟨hz, hk⟩
    · rw [hk]
      have hpp : (2 : Int) ^ p.length * 2 ^ (15 - p.length) = 32768 := by
        rw [← Int.pow_add, show p.length + (15 - p.length) = 15 by omega]
        decide
      rw [← hpp]
      exact Int.mul_lt_mul_of_pos_right hb.2 h0
    · have hzz : ∀ l : List Int, ∀ x ∈ l, 0 < x → nz l ≠ 0 := by
        intro l
        induction l with
        | nil => intro x hx; simp at hx
        | cons y l ih =>
          intro x hx hx0
          have := nz_bd l
          rw [nz]
          rcases List.mem_cons.1 hx with rfl | hx
          · rw [if_pos hx0]; omega
          · have := ih x hx hx0
            split <;> omega
      exact absurd hk (hzz l _ hmem (by omega))
    · have := one_code hz hk hmem (by omega)
      have hl : p.length = 0 := by omega
      obtain rfl : p = [] := List.eq_nil_of_length_eq_zero hl
      rw [hk]
      simp [mv]

theorem pk_find (l : List Int) (T : Int) (n : Nat) : ∀ d, pk l n ≤ T → T < pk l (n + d) → ∃ m, n ≤ m ∧ m < n + d ∧ pk l m ≤ T ∧ T < pk l (m + 1)
  | 0, h1, h2 => by rw [Nat.add_zero] at h2; omega
  | d + 1, h1, h2 => by
    by_cases h : T < pk l (n + d)
    · obtain ⟨m, a, b, c, e⟩ := pk_find l T n d h1 h
      exact ⟨m, a, by omega, c, e⟩
    · exact ⟨n + d, by omega, by omega, by omega, h2⟩

/-- Where bits run out, some code goes on. -/
theorem pre_of {l : List Int} (h : mayB l = true) (ho : Octets l) (p : List Int) (hp : Bit p) (hL : p.length < 15) (hn : ((p.length + 1 : Nat) : Int) ≤ mostOf l 15) (hge : fc l (p.length + 1) ≤ 2 * mv p) : ∃ s, Pre l s p := by
  have hlt := short_lt h p hp hL hn
  rw [kr_pk l ho (may_yes h).2] at hlt
  have h0 := p2_pos (15 - (p.length + 1))
  have hT : mv p * 2 ^ (15 - p.length) = 2 * mv p * 2 ^ (15 - (p.length + 1)) := by
    rw [show 15 - p.length = (15 - (p.length + 1)) + 1 by omega, Int.pow_succ, Int.mul_comm 2 (mv p), Int.mul_assoc, Int.mul_comm 2]
  have hlow : pk l (p.length + 1) ≤ mv p * 2 ^ (15 - p.length) := by
    rw [← fc_pk l (p.length + 1) (by omega) (by omega), hT]
    exact Int.mul_le_mul_of_nonneg_right hge (by omega)
  obtain ⟨m, h1, h2, h3, h4⟩ := pk_find l _ (p.length + 1) (15 - p.length) hlow (by rwa [show p.length + 1 + (15 - p.length) = 16 by omega])
  rw [pk, if_neg (by omega)] at h4
  have hm0 := p2_pos (15 - m)
  have hsplit : mv p * 2 ^ (15 - p.length) = (mv p * 2 ^ (m - p.length)) * 2 ^ (15 - m) := by
    rw [Int.mul_assoc, ← Int.pow_add, show m - p.length + (15 - m) = 15 - p.length by omega]
  rw [← fc_pk l m (by omega) (by omega)] at h3 h4
  rw [hsplit] at h3 h4
  have h3' : fc l m ≤ mv p * 2 ^ (m - p.length) := Int.le_of_mul_le_mul_right h3 hm0
  have h4' : mv p * 2 ^ (m - p.length) < fc l m + cnt l (m : Int) := by
    rw [← Int.add_mul] at h4
    exact Int.lt_of_mul_lt_mul_right h4 (by omega)
  obtain ⟨k, hk⟩ := Int.eq_ofNat_of_zero_le (show 0 ≤ mv p * 2 ^ (m - p.length) - fc l m by omega)
  obtain ⟨j, _, hj, hjn, hjr⟩ := sym_at (l := l) m k (by omega)
  obtain ⟨hc, _, _, _⟩ := code_eq h ho j hj m (by omega) hjn
  refine ⟨j, hj, m, by omega, hjn, by omega, ?_⟩
  rw [hc, hjr, ← hk, show fc l m + (mv p * 2 ^ (m - p.length) - fc l m) = mv p * 2 ^ (m - p.length) by omega]
  exact (Int.mul_ediv_cancel _ (by have := p2_pos (m - p.length); omega)).symm

/-- What the search tells is so. -/
def Right (l : List Int) (bits : List Int) : Told → Prop
  | .sym s n => ∃ j : Nat, s = (j : Int) ∧ Match l j bits ∧ l.getD j 0 = (n : Int)
  | .short => (∀ j, ¬ Match l j bits) ∧ ∃ j, Pre l j bits
  | .form => (∀ j, ¬ Match l j bits) ∧ ∀ j, ¬ Pre l j bits

theorem go_right {l : List Int} (h : mayB l = true) (ho : Octets l) : ∀ (fuel : Nat) (p bits : List Int), Bit (p ++ bits) → fuel + p.length = 16 → fc l (p.length + 1) ≤ 2 * mv p →
    (∀ j (n : Nat), j < l.length → 0 < n → l.getD j 0 = (n : Int) → n ≤ p.length → mv ((p ++ bits).take n) ≠ code l j) → Right l (p ++ bits) (go l fuel (p.length + 1) (mv p) bits)
  | 0, p, bits, hb, hf, hge, hno => by
    have h15 : ∀ j (n : Nat), j < l.length → l.getD j 0 = (n : Int) → n ≤ 15 := fun j n hj hn => by
      have := (may_yes h).2 l[j] (List.getElem_mem hj)
      have hg : l.getD j 0 = l[j] := by simp [List.getD, hj]
      omega
    refine ⟨fun j hm => ?_, fun j hm => ?_⟩
    · obtain ⟨hj, n, h0, hn, hle, he⟩ := hm
      exact hno j n hj h0 hn (by have := h15 j n hj hn; omega) he
    · obtain ⟨hj, n, h0, hn, hle, he⟩ := hm
      have := h15 j n hj hn
      rw [List.length_append] at hle
      omega
  | fuel + 1, p, bits, hb, hf, hge, hno => by
    rw [go_succ]
    by_cases hmost : mostOf l 15 < ((p.length + 1 : Nat) : Int)
    · rw [if_pos hmost]
      have hle : ∀ j (n : Nat), j < l.length → 0 < n → l.getD j 0 = (n : Int) → n ≤ p.length := fun j n hj h0 hn => by
        obtain ⟨_, _, _, h15⟩ := code_eq h ho j hj n h0 hn
        have := most_ge l n h0 (cnt_of_sym j hj n hn) (15 - n)
        rw [show n + (15 - n) = 15 by omega] at this
        omega
      refine ⟨fun j hm => ?_, fun j hm => ?_⟩
      · obtain ⟨hj, n, h0, hn, _, he⟩ := hm
        exact hno j n hj h0 hn (hle j n hj h0 hn) he
      · obtain ⟨hj, n, h0, hn, hlt, he⟩ := hm
        have := hle j n hj h0 hn
        rw [List.length_append] at hlt
        omega
    · rw [if_neg hmost]
      have hL := most_le l 15
      match bits, hb, hno with
      | [], hb, hno =>
        rw [List.append_nil] at hb hno ⊢
        refine ⟨fun j hm => ?_, pre_of h ho p hb (by omega) (by omega) hge⟩
        obtain ⟨hj, n, h0, hn, hle, he⟩ := hm
        exact hno j n hj h0 hn hle he
      | b :: rest, hb, hno =>
        have e1 : p ++ b :: rest = (p ++ [b]) ++ rest := by simp
        have hb0 := hb b (by simp)
        have hlen : (p ++ [b]).length = p.length + 1 := by simp
        have htake : (p ++ b :: rest).take (p.length + 1) = p ++ [b] := by
          rw [e1, List.take_append_of_le_length (by omega), List.take_of_length_le (by omega)]
        simp only
        by_cases hc : 2 * mv p + b - fc l (p.length + 1) < cnt l ((p.length + 1 : Nat) : Int)
        · rw [if_pos hc]
          obtain ⟨k, hk⟩ := Int.eq_ofNat_of_zero_le (show 0 ≤ 2 * mv p + b - fc l (p.length + 1) by omega)
          obtain ⟨j, hjx, hj, hjn, hjr⟩ := sym_at (l := l) (p.length + 1) k (by omega)
          obtain ⟨hcd, _, _, _⟩ := code_eq h ho j hj (p.length + 1) (by omega) hjn
          have hsy := syms_get (p.length + 1) (by omega) (by omega) k _ hjx
          refine ⟨j, ?_, ⟨hj, p.length + 1, by omega, hjn, by simp, ?_⟩, hjn⟩
          · have : (ahead l (p.length + 1) + (2 * mv p + b) - fc l (p.length + 1)).toNat = (syms l (p.length + 1 - 1)).length + k := by unfold ahead; omega
            rw [this, hsy]
            rfl
          · rw [htake, mv_snoc, hcd, hjr]
            omega
        · rw [if_neg hc]
          have ih := go_right h ho fuel (p ++ [b]) rest (by rw [← e1]; exact hb) (by omega) (by
            rw [hlen, fc, if_neg (by omega), mv_snoc]
            omega) (by
            intro j n hj h0 hn hle
            rw [hlen] at hle
            by_cases hn2 : n ≤ p.length
            · have := hno j n hj h0 hn hn2
              rwa [e1] at this
            · obtain rfl : n = p.length + 1 := by omega
              obtain ⟨_, _, hlt, _⟩ := code_eq h ho j hj (p.length + 1) h0 hn
              rw [← e1, htake, mv_snoc]
              omega)
          rw [hlen, mv_snoc, ← e1] at ih
          exact ih

/-- What stands in bits, by the program's search. -/
def told (l : List Int) (bits : List Int) : Told := go l 16 1 0 bits
theorem told_right {l : List Int} (h : mayB l = true) (ho : Octets l) (bits : List Int) (hb : Bit bits) : Right l bits (told l bits) :=
  go_right h ho 16 [] bits hb rfl (by simp [fc, mv]) (fun j n _ h0 _ hle => by simp at hle; omega)
end Go.Proofs.YthflefdchgpbdaaDoor.Huf

namespace Go.Proofs.YthflefdchgpbdaaDoor.Huf
open Go.RowKit Go.Proofs.YthflefdchgpbdaaDoor.Kit Go.Proofs.YthflefdchgpbdaaDoor.Bits

theorem mv_append (a b : List Int) : mv (a ++ b) = mv a * 2 ^ b.length + mv b := by
  have gen : ∀ (b : List Int) (x : Int), b.foldl (fun a b => 2 * a + b) x = x * 2 ^ b.length + b.foldl (fun a b => 2 * a + b) 0 := by
    intro b
    induction b with
    | nil => intro x; simp
    | cons y b ih =>
      intro x
      simp only [List.foldl_cons, List.length_cons]
      rw [ih (2 * x + y), ih (2 * 0 + y), Int.pow_succ, Int.add_mul, Int.add_mul, Int.mul_comm 2 x, Int.mul_assoc x 2, Int.mul_comm 2]
      omega
  unfold mv
  rw [List.foldl_append, gen b]

theorem mv_rev : ∀ p : List Int, mv p.reverse = val p
  | [] => rfl
  | b :: p => by rw [List.reverse_cons, mv_snoc, mv_rev p, val]; omega
theorem mv_val (p : List Int) : mv p = val p.reverse := by rw [← mv_rev, List.reverse_reverse]
theorem bit_rev {p : List Int} (h : Bit p) : Bit p.reverse := fun x hx => h x (List.mem_reverse.1 hx)
theorem mv_inj {a b : List Int} (ha : Bit a) (hb : Bit b) (hl : a.length = b.length) (h : mv a = mv b) : a = b := by
  rw [mv_val, mv_val] at h
  have h1 := num_val (bit_rev ha)
  have h2 := num_val (bit_rev hb)
  rw [List.length_reverse] at h1 h2
  rw [h, hl, h2] at h1
  exact (List.reverse_inj.1 h1).symm
theorem num_drop (x : Int) (a b : Nat) : (num x (a + b)).drop a = num (x / 2 ^ a) b := by
  rw [num_append, List.drop_append_of_le_length (by rw [num_length]; exact Nat.le_refl _), List.drop_eq_nil_of_le (by rw [num_length]; exact Nat.le_refl _), List.nil_append]
theorem rev_take (x : Int) (n k : Nat) (hk : k ≤ n) : (num x n).reverse.take k = (num (x / 2 ^ (n - k)) k).reverse := by
  rw [List.take_reverse, num_length]
  obtain ⟨a, rfl⟩ : ∃ a, n = a + k := ⟨n - k, by omega⟩
  rw [Nat.add_sub_cancel, num_drop]
theorem mv_num (x : Int) (k : Nat) : mv (num x k).reverse = x % 2 ^ k := by rw [mv_rev, val_num]

/-- The first bits of a code are these bits. -/
theorem same_iff (x : Int) (n k : Nat) (hk : k ≤ n) (hx : 0 ≤ x ∧ x < 2 ^ n) {q : List Int} (hq : Bit q) (hl : q.length = k) : (num x n).reverse.take k = q ↔ mv q = x / 2 ^ (n - k) := by
  have hp := p2_pos (n - k)
  have hlt : x / 2 ^ (n - k) < 2 ^ k := by
    apply Int.ediv_lt_of_lt_mul hp
    rw [← Int.pow_add, show k + (n - k) = n by omega]
    exact hx.2
  have hge : 0 ≤ x / 2 ^ (n - k) := Int.ediv_nonneg hx.1 (by omega)
  rw [rev_take x n k hk]
  constructor
  · rintro rfl
    rw [mv_num, Int.emod_eq_of_lt hge hlt]
  · intro h
    apply mv_inj (bit_rev (num_bit _ _)) hq (by rw [List.length_reverse, num_length, hl])
    rw [mv_num, Int.emod_eq_of_lt hge hlt, h]

theorem grow {l : List Int} (n m : Nat) (h1 : 1 ≤ n) (hm : n < m) (h15 : m ≤ 15) : (fc l n + cnt l (n : Int)) * 2 ^ (m - n) ≤ fc l m := by
  have h0 := p2_pos (15 - m)
  have hmono := pk_mono l (n + 1) (m - (n + 1))
  rw [show n + 1 + (m - (n + 1)) = m by omega, pk, if_neg (by omega), ← fc_pk l n h1 (by omega), ← fc_pk l m (by omega) h15, ← Int.add_mul, show 15 - n = (m - n) + (15 - m) by omega, Int.pow_add, ← Int.mul_assoc] at hmono
  exact Int.le_of_mul_le_mul_right hmono h0

theorem cnt_take_mono (l : List Int) (n : Int) (a b : Nat) (h : a ≤ b) : cnt (l.take a) n ≤ cnt (l.take b) n := by
  have : l.take b = l.take a ++ (l.take b).drop a := by
    have := List.take_append_drop a (l.take b)
    rw [List.take_take, Nat.min_eq_left h] at this
    exact this.symm
  rw [this, cnt_append]
  have := (cnt_bd ((l.take b).drop a) n).1
  omega
theorem rank_lt_of (l : List Int) (i j : Nat) (hij : i < j) (hj : j < l.length) (he : l.getD i 0 = l.getD j 0) : rank l i < rank l j := by
  have h1 := cnt_take_mono l (l.getD j 0) (i + 1) j (by omega)
  have h2 := cnt_append (l.take i) [l[i]] (l.getD j 0)
  rw [← take_snoc l i (by omega)] at h2
  have hg : l.getD i 0 = l[i] := by simp [List.getD, show i < l.length by omega]
  rw [hg] at he
  simp only [cnt, he, if_true] at h2
  unfold rank
  rw [hg, he]
  omega

/-- One symbol at most. -/
theorem match_one {l : List Int} (h : mayB l = true) (ho : Octets l) {bits : List Int} (hb : Bit bits) {i j : Nat} (hi : Match l i bits) (hj : Match l j bits) : i = j := by
  have main : ∀ i j (n m : Nat), i < l.length → j < l.length → 0 < n → l.getD i 0 = (n : Int) → n ≤ bits.length → mv (bits.take n) = code l i → 0 < m → l.getD j 0 = (m : Int) → m ≤ bits.length → mv (bits.take m) = code l j → ¬ n < m := by
    intro i j n m hi hj h0 hn hnl he h0' hm hml he' hlt
    obtain ⟨_, _, hci, _⟩ := code_eq h ho i hi n h0 hn
    obtain ⟨hcj, _, _, h15⟩ := code_eq h ho j hj m h0' hm
    have hr := (rank_lt l j hj).1
    have hg := grow (l := l) n m h0 hlt h15
    have hs : bits.take m = bits.take n ++ (bits.take m).drop n := by
      have := List.take_append_drop n (bits.take m)
      rw [List.take_take, Nat.min_eq_left (by omega)] at this
      exact this.symm
    have hd : ((bits.take m).drop n).length = m - n := by simp; omega
    have hb2 := mv_bd ((hb.take m).drop n)
    have hma := mv_append (bits.take n) ((bits.take m).drop n)
    rw [← hs] at hma
    rw [hd] at hb2 hma
    have hp := p2_pos (m - n)
    have : (mv (bits.take n) + 1) * 2 ^ (m - n) ≤ (fc l n + cnt l (n : Int)) * 2 ^ (m - n) := Int.mul_le_mul_of_nonneg_right (by omega) (by omega)
    rw [Int.add_mul] at this
    omega
  obtain ⟨hi1, n, h0, hn, hnl, he⟩ := hi
  obtain ⟨hj1, m, h0', hm, hml, he'⟩ := hj
  have h1 := main i j n m hi1 hj1 h0 hn hnl he h0' hm hml he'
  have h2 := main j i m n hj1 hi1 h0' hm hml he' h0 hn hnl he
  obtain rfl : n = m := by omega
  obtain ⟨hci, _⟩ := code_eq h ho i hi1 n h0 hn
  obtain ⟨hcj, _⟩ := code_eq h ho j hj1 n h0 hm
  rcases Nat.lt_trichotomy i j with hlt | heq | hgt
  · have := rank_lt_of l i j hlt hj1 (by rw [hn, hm]); omega
  · exact heq
  · have := rank_lt_of l j i hgt hi1 (by rw [hn, hm]); omega

/-- A symbol that stands in bits is told. -/
theorem told_match {l : List Int} (h : mayB l = true) (ho : Octets l) {bits : List Int} (hb : Bit bits) {j : Nat} (n : Nat) (hm : Match l j bits) (hn : l.getD j 0 = (n : Int)) : told l bits = .sym (j : Int) n := by
  have hr := told_right h ho bits hb
  cases ht : told l bits with
  | sym s m =>
    rw [ht] at hr
    obtain ⟨i, rfl, hi, him⟩ := hr
    obtain rfl := match_one h ho hb hi hm
    rw [hn] at him
    obtain rfl : n = m := by omega
    rfl
  | short => rw [ht] at hr; exact absurd hm (hr.1 j)
  | form => rw [ht] at hr; exact absurd hm (hr.1 j)
theorem told_short {l : List Int} (h : mayB l = true) (ho : Octets l) {bits : List Int} (hb : Bit bits) (hm : ∀ j, ¬ Match l j bits) {j : Nat} (hp : Pre l j bits) : told l bits = .short := by
  have hr := told_right h ho bits hb
  cases ht : told l bits with
  | sym s m => rw [ht] at hr; obtain ⟨i, _, hi, _⟩ := hr; exact absurd hi (hm i)
  | short => rfl
  | form => rw [ht] at hr; exact absurd hp (hr.2 j)
theorem told_form {l : List Int} (h : mayB l = true) (ho : Octets l) {bits : List Int} (hb : Bit bits) (hm : ∀ j, ¬ Match l j bits) (hp : ∀ j, ¬ Pre l j bits) : told l bits = .form := by
  have hr := told_right h ho bits hb
  cases ht : told l bits with
  | sym s m => rw [ht] at hr; obtain ⟨i, _, hi, _⟩ := hr; exact absurd hi (hm i)
  | short => rw [ht] at hr; obtain ⟨i, hi⟩ := hr.2; exact absurd hi (hp i)
  | form => rfl

/-- A symbol's bits. -/
def bitsAt (l : List Int) (s : Nat) : List Int := (num (code l s) (l.getD s 0).toNat).reverse
theorem match_iff {l : List Int} (h : mayB l = true) (ho : Octets l) {bits : List Int} (hb : Bit bits) {s n : Nat} (hs : s < l.length) (h0 : 0 < n) (hn : l.getD s 0 = (n : Int)) (hl : n ≤ bits.length) :
    Match l s bits ↔ bitsAt l s = bits.take n := by
  obtain ⟨_, hc0, hc1, h15⟩ := code_eq h ho s hs n h0 hn
  have hle := fc_cnt_le h ho n h0 h15
  have hlen : (bits.take n).length = n := by simp; omega
  have hsame := same_iff (code l s) n n (Nat.le_refl _) ⟨hc0, by omega⟩ (hb.take n) hlen
  rw [List.take_of_length_le (by simp [num_length]), Nat.sub_self] at hsame
  simp only [Int.pow_zero, Int.ediv_one] at hsame
  unfold bitsAt
  rw [hn, Int.toNat_natCast, hsame]
  constructor
  · rintro ⟨_, m, _, hm, _, he⟩
    obtain rfl : n = m := by omega
    exact he
  · intro he
    exact ⟨hs, n, h0, hn, hl, he⟩
theorem pre_iff {l : List Int} (h : mayB l = true) (ho : Octets l) {bits : List Int} (hb : Bit bits) {s n : Nat} (hs : s < l.length) (h0 : 0 < n) (hn : l.getD s 0 = (n : Int)) (hl : bits.length < n) :
    Pre l s bits ↔ (bitsAt l s).take bits.length = bits := by
  obtain ⟨_, hc0, hc1, h15⟩ := code_eq h ho s hs n h0 hn
  have hle := fc_cnt_le h ho n h0 h15
  have hsame := same_iff (code l s) n bits.length (by omega) ⟨hc0, by omega⟩ hb rfl
  unfold bitsAt
  rw [hn, Int.toNat_natCast, hsame]
  constructor
  · rintro ⟨_, m, _, hm, _, he⟩
    obtain rfl : n = m := by omega
    exact he
  · intro he
    exact ⟨hs, n, h0, hn, hl, he⟩

/-- The place of a symbol that is told lies among them. -/
theorem place_ok {l : List Int} (n : Nat) (h1 : 1 ≤ n) (h15 : n ≤ 15) (x : Int) (hx : fc l n ≤ x) (hc : x - fc l n < cnt l (n : Int)) :
    0 ≤ ahead l n + x - fc l n ∧ (ahead l n + x - fc l n).toNat < (syms l 15).length := by
  obtain ⟨k, hk⟩ := Int.eq_ofNat_of_zero_le (show 0 ≤ x - fc l n by omega)
  obtain ⟨j, hjx, _⟩ := sym_at (l := l) n k (by omega)
  have hsy := syms_get n h1 h15 k _ hjx
  have hlt : (syms l (n - 1)).length + k < (syms l 15).length := by
    rcases Nat.lt_or_ge ((syms l (n - 1)).length + k) (syms l 15).length with h' | h'
    · exact h'
    · rw [List.getElem?_eq_none h'] at hsy; cases hsy
  unfold ahead
  omega
end Go.Proofs.YthflefdchgpbdaaDoor.Huf

namespace Go.Proofs.YthflefdchgpbdaaDoor.Huf
open Go.RowKit Go.Proofs.YthflefdchgpbdaaDoor.Kit Go.Proofs.YthflefdchgpbdaaDoor.Bits

theorem val_one (b : Int) : val [b] = b := by simp [val]

/-- The next bit, and what it tells. -/
theorem bit_step {X : List Int} (hX : Bit X) {p k : Nat} (h : p + k < X.length) :
    ∃ b, 0 ≤ b ∧ b ≤ 1 ∧ (X.drop p).drop k = b :: (X.drop p).drop (k + 1) ∧ val ((X.drop (p + k)).take 1) = b ∧ mv ((X.drop p).take (k + 1)) = 2 * mv ((X.drop p).take k) + b := by
  have hb := hX _ (List.getElem_mem h)
  have hcons : X.drop (p + k) = X[p + k] :: X.drop (p + k + 1) := List.drop_eq_getElem_cons h
  refine ⟨X[p + k], hb.1, by omega, ?_, ?_, ?_⟩
  · rw [List.drop_drop, List.drop_drop, hcons]; rfl
  · rw [hcons]
    exact val_one _
  · have he : (X.drop p).take (k + 1) = (X.drop p).take k ++ [X[p + k]] := by
      rw [List.take_add_one, List.getElem?_drop, List.getElem?_eq_getElem h]
      rfl
    rw [he, mv_snoc]

theorem mv_small {X : List Int} (hX : Bit X) (p : Nat) {k : Nat} (hk : k ≤ 15) : 0 ≤ mv ((X.drop p).take k) ∧ mv ((X.drop p).take k) ≤ 32767 := by
  have h1 := mv_bd (p := (X.drop p).take k) (fun x hx => hX x (List.mem_of_mem_drop (List.mem_of_mem_take hx)))
  have h2 : ((X.drop p).take k).length ≤ 15 := Nat.le_trans (List.length_take_le _ _) hk
  have h3 : (2 : Int) ^ ((X.drop p).take k).length ≤ 2 ^ 15 := by
    have := Nat.pow_le_pow_right (n := 2) (by omega) h2
    have h4 := Int.ofNat_le.2 this
    rw [Int.natCast_pow, Int.natCast_pow] at h4
    exact h4
  rw [show (2 : Int) ^ 15 = 32768 by decide] at h3
  omega

theorem ahead_bd (l : List Int) (hs : (syms l 15).length ≤ 4500) (k : Nat) (hk : k ≤ 14) : 0 ≤ ahead l (k + 1) ∧ ahead l (k + 1) ≤ 4500 := by
  obtain ⟨t, ht⟩ := syms_prefix l k (15 - k)
  rw [show k + (15 - k) = 15 by omega] at ht
  have := congrArg List.length ht
  rw [List.length_append] at this
  unfold ahead
  rw [Nat.add_sub_cancel]
  omega

theorem fc_next (l : List Int) (k : Nat) : fc l (k + 1 + 1) = 2 * (fc l (k + 1) + cnt l ((k + 1 : Nat) : Int)) := by
  rw [fc, if_neg (by omega)]

theorem syms_mem {l : List Int} : ∀ {n : Nat} {x : Int}, x ∈ syms l n → 0 ≤ x ∧ x < l.length
  | 0, _, h => by simp [syms] at h
  | n + 1, x, h => by
    rw [syms] at h
    rcases List.mem_append.1 h with h | h
    · exact syms_mem h
    · unfold idx at h
      obtain ⟨j, hj, rfl⟩ := List.mem_map.1 h
      have := List.mem_range.1 (List.mem_filter.1 hj).1
      omega
theorem syms_bd (l : List Int) (hl : l.length ≤ 300) (i : Nat) : 0 ≤ (syms l 15)[i]?.getD 0 ∧ (syms l 15)[i]?.getD 0 ≤ 300 := by
  rcases Nat.lt_or_ge i (syms l 15).length with h | h
  · rw [List.getElem?_eq_getElem h]
    have := syms_mem (List.getElem_mem h)
    simp only [Option.getD_some]
    omega
  · rw [List.getElem?_eq_none h]
    simp
end Go.Proofs.YthflefdchgpbdaaDoor.Huf

namespace Go.Proofs.YthflefdchgpbdaaDoor.Huf
open Go.RowKit Go.Proofs.YthflefdchgpbdaaDoor.Kit Go.Proofs.YthflefdchgpbdaaDoor.Bits

/-- What is so of the symbols before s: none stands, and g tells whether one goes on behind the end. -/
def Sofar (l bits : List Int) (s : Nat) (g : Bool) : Prop := (∀ j, j < s → ¬ Match l j bits) ∧ (g = true ↔ ∃ j, j < s ∧ Pre l j bits)

theorem sofar_zero (l bits : List Int) : Sofar l bits 0 false := ⟨fun j hj => absurd hj (by omega), by simp⟩

theorem Match.pos {l bits : List Int} {s : Nat} (h : Match l s bits) : 0 < l.getD s 0 := by
  obtain ⟨_, n, h0, hn, _⟩ := h
  omega
theorem Pre.pos {l bits : List Int} {s : Nat} (h : Pre l s bits) : 0 < l.getD s 0 := by
  obtain ⟨_, n, h0, hn, _⟩ := h
  omega

theorem sofar_skip {l bits : List Int} {s : Nat} {g : Bool} (h : Sofar l bits s g) (h0 : l.getD s 0 = 0) : Sofar l bits (s + 1) g := by
  refine ⟨fun j hj hm => ?_, h.2.trans ⟨?_, ?_⟩⟩
  · by_cases he : j = s
    · subst he
      have := hm.pos
      omega
    · exact h.1 j (by omega) hm
  · rintro ⟨j, hj, hp⟩
    exact ⟨j, by omega, hp⟩
  · rintro ⟨j, hj, hp⟩
    by_cases he : j = s
    · subst he
      have := hp.pos
      omega
    · exact ⟨j, by omega, hp⟩

theorem bitsAt_length (l : List Int) (s : Nat) : (bitsAt l s).length = (l.getD s 0).toNat := by simp [bitsAt, num_length]

theorem sofar_match {l : List Int} (h : mayB l = true) (ho : Octets l) {bits : List Int} (hb : Bit bits) {s n : Nat} (hs : s < l.length) (h0 : 0 < n) (hn : l.getD s 0 = (n : Int)) (hl : n ≤ bits.length)
    (he : (bitsAt l s).take n = bits.take n) : told l bits = .sym (s : Int) n := by
  refine told_match h ho hb n ((match_iff h ho hb hs h0 hn hl).2 ?_) hn
  rw [← he, List.take_of_length_le (by rw [bitsAt_length, hn]; omega)]

theorem sofar_long {l : List Int} (h : mayB l = true) (ho : Octets l) {bits : List Int} (hb : Bit bits) {s n : Nat} {g : Bool} (hs : s < l.length) (h0 : 0 < n) (hn : l.getD s 0 = (n : Int)) (hl : n ≤ bits.length)
    (he : (bitsAt l s).take n ≠ bits.take n) (hg : Sofar l bits s g) : Sofar l bits (s + 1) g := by
  have hm : ¬ Match l s bits := fun hm => he (by rw [← (match_iff h ho hb hs h0 hn hl).1 hm, List.take_of_length_le (by rw [bitsAt_length, hn]; omega)])
  have hp : ¬ Pre l s bits := fun ⟨_, m, _, hm, hlt, _⟩ => by omega
  refine ⟨fun j hj hm' => ?_, hg.2.trans ⟨?_, ?_⟩⟩
  · by_cases hj2 : j = s
    · exact hm (hj2 ▸ hm')
    · exact hg.1 j (by omega) hm'
  · rintro ⟨j, hj, hp'⟩
    exact ⟨j, by omega, hp'⟩
  · rintro ⟨j, hj, hp'⟩
    by_cases hj2 : j = s
    · exact absurd (hj2 ▸ hp') hp
    · exact ⟨j, by omega, hp'⟩

theorem sofar_brief {l : List Int} (h : mayB l = true) (ho : Octets l) {bits : List Int} (hb : Bit bits) {s n : Nat} {g : Bool} (hs : s < l.length) (h0 : 0 < n) (hn : l.getD s 0 = (n : Int)) (hl : bits.length < n)
    (hg : Sofar l bits s g) : Sofar l bits (s + 1) (g || decide ((bitsAt l s).take bits.length = bits)) := by
  have hp := pre_iff h ho hb hs h0 hn hl
  have hm : ¬ Match l s bits := fun ⟨_, m, _, hm, hlt, _⟩ => by omega
  refine ⟨fun j hj hm' => ?_, ?_⟩
  · by_cases hj2 : j = s
    · exact hm (hj2 ▸ hm')
    · exact hg.1 j (by omega) hm'
  · rw [Bool.or_eq_true, decide_eq_true_iff, ← hp, hg.2]
    constructor
    · rintro (⟨j, hj, hp'⟩ | hp')
      · exact ⟨j, by omega, hp'⟩
      · exact ⟨s, by omega, hp'⟩
    · rintro ⟨j, hj, hp'⟩
      by_cases hj2 : j = s
      · exact .inr (hj2 ▸ hp')
      · exact .inl ⟨j, by omega, hp'⟩

theorem sofar_end {l : List Int} (h : mayB l = true) (ho : Octets l) {bits : List Int} (hb : Bit bits) {g : Bool} (hg : Sofar l bits l.length g) : told l bits = if g then .short else .form := by
  have hm : ∀ j, ¬ Match l j bits := fun j hj => hg.1 j hj.1 hj
  cases g with
  | true =>
    obtain ⟨j, _, hp⟩ := hg.2.1 rfl
    exact told_short h ho hb hm hp
  | false => exact told_form h ho hb hm fun j hj => absurd (hg.2.2 ⟨j, hj.1, hj⟩) (by decide)

/-- One bit more of two lists that are the same so far. -/
theorem same_next (a b : List Int) (k : Nat) (ha : k < a.length) (hb : k < b.length) : (decide (a.take k = b.take k) && (a[k]?.getD 0 == b[k]?.getD 0)) = decide (a.take (k + 1) = b.take (k + 1)) := by
  have e1 := List.take_add_one (l := a) (i := k)
  have e2 := List.take_add_one (l := b) (i := k)
  rw [List.getElem?_eq_getElem ha] at e1 ⊢
  rw [List.getElem?_eq_getElem hb] at e2 ⊢
  simp only [Option.getD_some, Option.toList_some] at e1 e2 ⊢
  apply Bool.eq_iff_iff.2
  rw [Bool.and_eq_true, decide_eq_true_iff, beq_iff_eq, decide_eq_true_iff, e1, e2]
  constructor
  · rintro ⟨h1, h2⟩
    rw [h1, h2]
  · intro h
    refine ⟨List.append_inj_left h (by rw [List.length_take, List.length_take]; omega), ?_⟩
    have := List.append_inj_right h (by rw [List.length_take, List.length_take]; omega)
    injection this

/-- The document's answer for what is told. -/
def toldV : Told → Value
  | .sym s n => .tuple #[.int .i64 s, .int .i64 n, .int .i64 0]
  | .short => .tuple #[.int .i64 0, .int .i64 0, .int .i64 2]
  | .form => .tuple #[.int .i64 0, .int .i64 0, .int .i64 3]
end Go.Proofs.YthflefdchgpbdaaDoor.Huf
