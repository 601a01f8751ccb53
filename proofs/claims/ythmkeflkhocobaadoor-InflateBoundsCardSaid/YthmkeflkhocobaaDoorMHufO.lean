/-
  Layer 9, huff: the symbol that stands in bits: plain. No program. No conditions beyond what each theorem names.
-/
import Derived.Test.YthmkeflkhocobaaDoorMHufN
namespace Go.Proofs.YthmkeflkhocobaaDoor.Huf
open Go.RowKit Go.Proofs.YthmkeflkhocobaaDoor.Kit Go.Proofs.YthmkeflkhocobaaDoor.Bits

/-- What is told of bits: a symbol and its length, that bits lack, or that there is none. -/
inductive Told where
  | sym (s : Int) (n : Nat)
  | short
  | form

/-- The program's search, from length n on, c being told by the bits ahead. -/
def go (l : List Int) : Nat → Nat → Int → List Int → Told
  | 0, _, _, _ => .form
  | fuel + 1, n, c, bits =>
    if mostOf l 15 < (n : Int) then .form else
    match bits with
    | [] => .short
    | b :: rest => if 2 * c + b - fc l n < cnt l (n : Int) then .sym ((syms l 15)[(ahead l n + (2 * c + b) - fc l n).toNat]?.getD 0) n else go l fuel (n + 1) (2 * c + b) rest

theorem go_succ (l : List Int) (fuel n : Nat) (c : Int) (bits : List Int) : go l (fuel + 1) n c bits = if mostOf l 15 < (n : Int) then .form else
    match bits with
    | [] => .short
    | b :: rest => if 2 * c + b - fc l n < cnt l (n : Int) then .sym ((syms l 15)[(ahead l n + (2 * c + b) - fc l n).toNat]?.getD 0) n else go l fuel (n + 1) (2 * c + b) rest := by
  cases bits <;> rfl

theorem most_ge (l : List Int) (n : Nat) (h1 : 1 ≤ n) (hc : cnt l (n : Int) ≠ 0) : ∀ d, (n : Int) ≤ mostOf l (n + d)
  | 0 => by
    obtain ⟨m, rfl⟩ : ∃ m, n = m + 1 := ⟨n - 1, by omega⟩
    rw [Nat.add_zero, mostOf, if_neg hc]
    omega
  | d + 1 => by
    have := most_ge l n h1 hc d
    rw [← Nat.add_assoc, mostOf]
    split <;> omega
theorem most_le (l : List Int) : ∀ n, 0 ≤ mostOf l n ∧ mostOf l n ≤ n
  | 0 => by simp [mostOf]
  | n + 1 => by
    have := most_le l n
    rw [mostOf]
    split <;> omega
theorem most_cnt (l : List Int) : ∀ n, mostOf l n = 0 ∨ ∃ m : Nat, mostOf l n = (m : Int) ∧ 1 ≤ m ∧ m ≤ n ∧ cnt l (m : Int) ≠ 0
  | 0 => .inl rfl
  | n + 1 => by
    rw [mostOf]
    by_cases h : cnt l ((n + 1 : Nat) : Int) = 0
    · rw [if_pos h]
      rcases most_cnt l n with h' | ⟨m, h1, h2, h3, h4⟩
      · exact .inl h'
      · exact .inr ⟨m, h1, h2, by omega, h4⟩
    · rw [if_neg h]
      exact .inr ⟨n + 1, rfl, by omega, Nat.le_refl _, h⟩
theorem cnt_mem {l : List Int} {n : Int} (h : cnt l n ≠ 0) : n ∈ l := by
  induction l with
  | nil => simp [cnt] at h
  | cons x l ih =>
    rw [cnt] at h
    by_cases hx : x = n
    · rw [hx]; exact List.mem_cons_self ..
    · rw [if_neg hx] at h
      exact List.mem_cons_of_mem _ (ih (by omega))
theorem cnt_of_sym {l : List Int} (s : Nat) (hs : s < l.length) (n : Nat) (hn : l.getD s 0 = (n : Int)) : cnt l (n : Int) ≠ 0 := by
  have := rank_lt l s hs
  rw [hn] at this
  omega

/-- One code: its length is 1. -/
theorem one_code {l : List Int} (hz : nz l = 1) (hk : kr l = 16384) {m : Int} (hm : m ∈ l) (h0 : 0 < m) : m = 1 := by
  have hz0 : ∀ l : List Int, nz l = 0 → kr l = 0 := by
    intro l
    induction l with
    | nil => intro _; rfl
    | cons x l ih =>
      intro hn
      have := nz_bd l
      rw [nz] at hn
      by_cases h0 : 0 < x
      · rw [if_pos h0] at hn; omega
      · rw [if_neg h0] at hn
        rw [kr, ih (by omega), part1, if_neg h0]
        rfl
  obtain ⟨a, b, rfl⟩ := List.append_of_mem hm
  rw [nz_append, nz, if_pos h0] at hz
  have h1 := nz_bd a
  have h2 := nz_bd b
  rw [kr_append, kr, hz0 a (by omega), hz0 b (by omega)] at hk
  by_cases h15 : m ≤ 15
  · exact (part1_one h0 h15).1 (by omega)
  · unfold part1 at hk
    rw [if_pos h0, show 15 - m.toNat = 0 by omega] at hk
    simp at hk

/-- Bits that no code stands in front of are in front of a code, while there are longer ones. -/
theorem short_lt {l : List Int} (h : mayB l = true) (p : List Int) (hp : Bit p) (hL : p.length < 15) (hn : ((p.length + 1 : Nat) : Int) ≤ mostOf l 15) : mv p * 2 ^ (15 - p.length) < kr l := by
  have hmay := h
  unfold mayB at h
  simp only [Bool.and_eq_true, Bool.or_eq_true, decide_eq_true_eq] at h
  have hb := mv_bd hp
  have h0 := p2_pos (15 - p.length)
  rcases most_cnt l 15 with hm | ⟨m, hm, h1, h2, h3⟩
  · omega
  · have hmem := cnt_mem h3
    rcases h.2 with hk | hk | ⟨hz, hk⟩
    · rw [hk]
      have hpp : (2 : Int) ^ p.length * 2 ^ (15 - p.length) = 32768 := by
        rw [← Int.pow_add, show p.length + (15 - p.length) = 15 by omega]
        decide
      rw [← hpp]
      exact Int.mul_lt_mul_of_pos_right hb.2 h0
    · have hzz : ∀ l : List Int, ∀ x ∈ l, 0 < x → nz l ≠ 0 := by
        intro l
        induction l with
        | nil => intro x hx; simp at hx
        | cons y l ih =>
          intro x hx hx0
          have := nz_bd l
          rw [nz]
          rcases List.mem_cons.1 hx with rfl | hx
          · rw [if_pos hx0]; omega
          · have := ih x hx hx0
            split <;> omega
      exact absurd hk (hzz l _ hmem (by omega))
    · have := one_code hz hk hmem (by omega)
      have hl : p.length = 0 := by omega
      obtain rfl : p = [] := List.eq_nil_of_length_eq_zero hl
      rw [hk]
      simp [mv]

theorem pk_find (l : List Int) (T : Int) (n : Nat) : ∀ d, pk l n ≤ T → T < pk l (n + d) → ∃ m, n ≤ m ∧ m < n + d ∧ pk l m ≤ T ∧ T < pk l (m + 1)
  | 0, h1, h2 => by rw [Nat.add_zero] at h2; omega
  | d + 1, h1, h2 => by
    by_cases h : T < pk l (n + d)
    · obtain ⟨m, a, b, c, e⟩ := pk_find l T n d h1 h
      exact ⟨m, a, by omega, c, e⟩
    · exact ⟨n + d, by omega, by omega, by omega, h2⟩

/-- Where bits run out, some code goes on. -/
theorem pre_of {l : List Int} (h : mayB l = true) (ho : Octets l) (p : List Int) (hp : Bit p) (hL : p.length < 15) (hn : ((p.length + 1 : Nat) : Int) ≤ mostOf l 15) (hge : fc l (p.length + 1) ≤ 2 * mv p) : ∃ s, Pre l s p := by
  have hlt := short_lt h p hp hL hn
  rw [kr_pk l ho (may_yes h).2] at hlt
  have h0 := p2_pos (15 - (p.length + 1))
  have hT : mv p * 2 ^ (15 - p.length) = 2 * mv p * 2 ^ (15 - (p.length + 1)) := by
    rw [show 15 - p.length = (15 - (p.length + 1)) + 1 by omega, Int.pow_succ, Int.mul_comm 2 (mv p), Int.mul_assoc, Int.mul_comm 2]
  have hlow : pk l (p.length + 1) ≤ mv p * 2 ^ (15 - p.length) := by
    rw [← fc_pk l (p.length + 1) (by omega) (by omega), hT]
    exact Int.mul_le_mul_of_nonneg_right hge (by omega)
  obtain ⟨m, h1, h2, h3, h4⟩ := pk_find l _ (p.length + 1) (15 - p.length) hlow (by rwa [show p.length + 1 + (15 - p.length) = 16 by omega])
  rw [pk, if_neg (by omega)] at h4
  have hm0 := p2_pos (15 - m)
  have hsplit : mv p * 2 ^ (15 - p.length) = (mv p * 2 ^ (m - p.length)) * 2 ^ (15 - m) := by
    rw [Int.mul_assoc, ← Int.pow_add, show m - p.length + (15 - m) = 15 - p.length by omega]
  rw [← fc_pk l m (by omega) (by omega)] at h3 h4
  rw [hsplit] at h3 h4
  have h3' : fc l m ≤ mv p * 2 ^ (m - p.length) := Int.le_of_mul_le_mul_right h3 hm0
  have h4' : mv p * 2 ^ (m - p.length) < fc l m + cnt l (m : Int) := by
    rw [← Int.add_mul] at h4
    exact Int.lt_of_mul_lt_mul_right h4 (by omega)
  obtain ⟨k, hk⟩ := Int.eq_ofNat_of_zero_le (show 0 ≤ mv p * 2 ^ (m - p.length) - fc l m by omega)
  obtain ⟨j, _, hj, hjn, hjr⟩ := sym_at (l := l) m k (by omega)
  obtain ⟨hc, _, _, _⟩ := code_eq h ho j hj m (by omega) hjn
  refine ⟨j, hj, m, by omega, hjn, by omega, ?_⟩
  rw [hc, hjr, ← hk, show fc l m + (mv p * 2 ^ (m - p.length) - fc l m) = mv p * 2 ^ (m - p.length) by omega]
  exact (Int.mul_ediv_cancel _ (by have := p2_pos (m - p.length); omega)).symm

/-- What the search tells is so. -/
def Right (l : List Int) (bits : List Int) : Told → Prop
  | .sym s n => ∃ j : Nat, s = (j : Int) ∧ Match l j bits ∧ l.getD j 0 = (n : Int)
  | .short => (∀ j, ¬ Match l j bits) ∧ ∃ j, Pre l j bits
  | .form => (∀ j, ¬ Match l j bits) ∧ ∀ j, ¬ Pre l j bits

theorem go_right {l : List Int} (h : mayB l = true) (ho : Octets l) : ∀ (fuel : Nat) (p bits : List Int), Bit (p ++ bits) → fuel + p.length = 16 → fc l (p.length + 1) ≤ 2 * mv p →
    (∀ j (n : Nat), j < l.length → 0 < n → l.getD j 0 = (n : Int) → n ≤ p.length → mv ((p ++ bits).take n) ≠ code l j) → Right l (p ++ bits) (go l fuel (p.length + 1) (mv p) bits)
  | 0, p, bits, hb, hf, hge, hno => by
    have h15 : ∀ j (n : Nat), j < l.length → l.getD j 0 = (n : Int) → n ≤ 15 := fun j n hj hn => by
      have := (may_yes h).2 l[j] (List.getElem_mem hj)
      have hg : l.getD j 0 = l[j] := by simp [List.getD, hj]
      omega
    refine ⟨fun j hm => ?_, fun j hm => ?_⟩
    · obtain ⟨hj, n, h0, hn, hle, he⟩ := hm
      exact hno j n hj h0 hn (by have := h15 j n hj hn; omega) he
    · obtain ⟨hj, n, h0, hn, hle, he⟩ := hm
      have := h15 j n hj hn
      rw [List.length_append] at hle
      omega
  | fuel + 1, p, bits, hb, hf, hge, hno => by
    rw [go_succ]
    by_cases hmost : mostOf l 15 < ((p.length + 1 : Nat) : Int)
    · rw [if_pos hmost]
      have hle : ∀ j (n : Nat), j < l.length → 0 < n → l.getD j 0 = (n : Int) → n ≤ p.length := fun j n hj h0 hn => by
        obtain ⟨_, _, _, h15⟩ := code_eq h ho j hj n h0 hn
        have := most_ge l n h0 (cnt_of_sym j hj n hn) (15 - n)
        rw [show n + (15 - n) = 15 by omega] at this
        omega
      refine ⟨fun j hm => ?_, fun j hm => ?_⟩
      · obtain ⟨hj, n, h0, hn, _, he⟩ := hm
        exact hno j n hj h0 hn (hle j n hj h0 hn) he
      · obtain ⟨hj, n, h0, hn, hlt, he⟩ := hm
        have := hle j n hj h0 hn
        rw [List.length_append] at hlt
        omega
    · rw [if_neg hmost]
      have hL := most_le l 15
      match bits, hb, hno with
      | [], hb, hno =>
        rw [List.append_nil] at hb hno ⊢
        refine ⟨fun j hm => ?_, pre_of h ho p hb (by omega) (by omega) hge⟩
        obtain ⟨hj, n, h0, hn, hle, he⟩ := hm
        exact hno j n hj h0 hn hle he
      | b :: rest, hb, hno =>
        have e1 : p ++ b :: rest = (p ++ [b]) ++ rest := by simp
        have hb0 := hb b (by simp)
        have hlen : (p ++ [b]).length = p.length + 1 := by simp
        have htake : (p ++ b :: rest).take (p.length + 1) = p ++ [b] := by
          rw [e1, List.take_append_of_le_length (by omega), List.take_of_length_le (by omega)]
        simp only
        by_cases hc : 2 * mv p + b - fc l (p.length + 1) < cnt l ((p.length + 1 : Nat) : Int)
        · rw [if_pos hc]
          obtain ⟨k, hk⟩ := Int.eq_ofNat_of_zero_le (show 0 ≤ 2 * mv p + b - fc l (p.length + 1) by omega)
          obtain ⟨j, hjx, hj, hjn, hjr⟩ := sym_at (l := l) (p.length + 1) k (by omega)
          obtain ⟨hcd, _, _, _⟩ := code_eq h ho j hj (p.length + 1) (by omega) hjn
          have hsy := syms_get (p.length + 1) (by omega) (by omega) k _ hjx
          refine ⟨j, ?_, ⟨hj, p.length + 1, by omega, hjn, by simp, ?_⟩, hjn⟩
          · have : (ahead l (p.length + 1) + (2 * mv p + b) - fc l (p.length + 1)).toNat = (syms l (p.length + 1 - 1)).length + k := by unfold ahead; omega
            rw [this, hsy]
            rfl
          · rw [htake, mv_snoc, hcd, hjr]
            omega
        · rw [if_neg hc]
          have ih := go_right h ho fuel (p ++ [b]) rest (by rw [← e1]; exact hb) (by omega) (by
            rw [hlen, fc, if_neg (by omega), mv_snoc]
            omega) (by
            intro j n hj h0 hn hle
            rw [hlen] at hle
            by_cases hn2 : n ≤ p.length
            · have := hno j n hj h0 hn hn2
              rwa [e1] at this
            · obtain rfl : n = p.length + 1 := by omega
              obtain ⟨_, _, hlt, _⟩ := code_eq h ho j hj (p.length + 1) h0 hn
              rw [← e1, htake, mv_snoc]
              omega)
          rw [hlen, mv_snoc, ← e1] at ih
          exact ih

/-- What stands in bits, by the program's search. -/
def told (l : List Int) (bits : List Int) : Told := go l 16 1 0 bits
theorem told_right {l : List Int} (h : mayB l = true) (ho : Octets l) (bits : List Int) (hb : Bit bits) : Right l bits (told l bits) :=
  go_right h ho 16 [] bits hb rfl (by simp [fc, mv]) (fun j n _ h0 _ hle => by simp at hle; omega)
end Go.Proofs.YthmkeflkhocobaaDoor.Huf
