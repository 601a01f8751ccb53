/-
  Layer 9, huff: one symbol at most stands in bits; a code bit by bit: plain. No program. No conditions beyond what each theorem names.
  Layer 9, huff: a bit of Next's search: plain. No program. No conditions beyond what each theorem names.
-/
import Derived.Test.YthmkeflkhocobaaDoorMHufO
namespace Go.Proofs.YthmkeflkhocobaaDoor.Huf
open Go.RowKit Go.Proofs.YthmkeflkhocobaaDoor.Kit Go.Proofs.YthmkeflkhocobaaDoor.Bits

theorem mv_append (a b : List Int) : mv (a ++ b) = mv a * 2 ^ b.length + mv b := by
  have gen : ∀ (b : List Int) (x : Int), b.foldl (fun a b => 2 * a + b) x = x * 2 ^ b.length + b.foldl (fun a b => 2 * a + b) 0 := by
    intro b
    induction b with
    | nil => intro x; simp
    | cons y b ih =>
      intro x
      simp only [List.foldl_cons, List.length_cons]
      rw [ih (2 * x + y), ih (2 * 0 + y), Int.pow_succ, Int.add_mul, Int.add_mul, Int.mul_comm 2 x, Int.mul_assoc x 2, Int.mul_comm 2]
      omega
  unfold mv
  rw [List.foldl_append, gen b]

theorem mv_rev : ∀ p : List Int, mv p.reverse = val p
  | [] => rfl
  | b :: p => by rw [List.reverse_cons, mv_snoc, mv_rev p, val]; omega
theorem mv_val (p : List Int) : mv p = val p.reverse := by rw [← mv_rev, List.reverse_reverse]
theorem bit_rev {p : List Int} (h : Bit p) : Bit p.reverse := fun x hx => h x (List.mem_reverse.1 hx)
theorem mv_inj {a b : List Int} (ha : Bit a) (hb : Bit b) (hl : a.length = b.length) (h : mv a = mv b) : a = b := by
  rw [mv_val, mv_val] at h
  have h1 := num_val (bit_rev ha)
  have h2 := num_val (bit_rev hb)
  rw [List.length_reverse] at h1 h2
  rw [h, hl, h2] at h1
  exact (List.reverse_inj.1 h1).symm
theorem num_drop (x : Int) (a b : Nat) : (num x (a + b)).drop a = num (x / 2 ^ a) b := by
  rw [num_append, List.drop_append_of_le_length (by rw [num_length]; exact Nat.le_refl _), List.drop_eq_nil_of_le (by rw [num_length]; exact Nat.le_refl _), List.nil_append]
theorem rev_take (x : Int) (n k : Nat) (hk : k ≤ n) : (num x n).reverse.take k = (num (x / 2 ^ (n - k)) k).reverse := by
  rw [List.take_reverse, num_length]
  obtain ⟨a, rfl⟩ : ∃ a, n = a + k := ⟨n - k, by omega⟩
  rw [Nat.add_sub_cancel, num_drop]
theorem mv_num (x : Int) (k : Nat) : mv (num x k).reverse = x % 2 ^ k := by rw [mv_rev, val_num]

/-- The first bits of a code are these bits. -/
theorem same_iff (x : Int) (n k : Nat) (hk : k ≤ n) (hx : 0 ≤ x ∧ x < 2 ^ n) {q : List Int} (hq : Bit q) (hl : q.length = k) : (num x n).reverse.take k = q ↔ mv q = x / 2 ^ (n - k) := by
  have hp := p2_pos (n - k)
  have hlt : x / 2 ^ (n - k) < 2 ^ k := by
    apply Int.ediv_lt_of_lt_mul hp
    rw [← Int.pow_add, show k + (n - k) = n by omega]
    exact hx.2
  have hge : 0 ≤ x / 2 ^ (n - k) := Int.ediv_nonneg hx.1 (by omega)
  rw [rev_take x n k hk]
  constructor
  · rintro rfl
    rw [mv_num, Int.emod_eq_of_lt hge hlt]
  · intro h
    apply mv_inj (bit_rev (num_bit _ _)) hq (by rw [List.length_reverse, num_length, hl])
    rw [mv_num, Int.emod_eq_of_lt hge hlt, h]

theorem grow {l : List Int} (n m : Nat) (h1 : 1 ≤ n) (hm : n < m) (h15 : m ≤ 15) : (fc l n + cnt l (n : Int)) * 2 ^ (m - n) ≤ fc l m := by
  have h0 := p2_pos (15 - m)
  have hmono := pk_mono l (n + 1) (m - (n + 1))
  rw [show n + 1 + (m - (n + 1)) = m by omega, pk, if_neg (by omega), ← fc_pk l n h1 (by omega), ← fc_pk l m (by omega) h15, ← Int.add_mul, show 15 - n = (m - n) + (15 - m) by omega, Int.pow_add, ← Int.mul_assoc] at hmono
  exact Int.le_of_mul_le_mul_right hmono h0

theorem cnt_take_mono (l : List Int) (n : Int) (a b : Nat) (h : a ≤ b) : cnt (l.take a) n ≤ cnt (l.take b) n := by
  have : l.take b = l.take a ++ (l.take b).drop a := by
    have := List.take_append_drop a (l.take b)
    rw [List.take_take, Nat.min_eq_left h] at this
    exact this.symm
  rw [this, cnt_append]
  have := (cnt_bd ((l.take b).drop a) n).1
  omega
theorem rank_lt_of (l : List Int) (i j : Nat) (hij : i < j) (hj : j < l.length) (he : l.getD i 0 = l.getD j 0) : rank l i < rank l j := by
  have h1 := cnt_take_mono l (l.getD j 0) (i + 1) j (by omega)
  have h2 := cnt_append (l.take i) [l[i]] (l.getD j 0)
  rw [← take_snoc l i (by omega)] at h2
  have hg : l.getD i 0 = l[i] := by simp [List.getD, show i < l.length by omega]
  rw [hg] at he
  simp only [cnt, he, if_true] at h2
  unfold rank
  rw [hg, he]
  omega

/-- One symbol at most. -/
theorem match_one {l : List Int} (h : mayB l = true) (ho : Octets l) {bits : List Int} (hb : Bit bits) {i j : Nat} (hi : Match l i bits) (hj : Match l j bits) : i = j := by
  have main : ∀ i j (n m : Nat), i < l.length → j < l.length → 0 < n → l.getD i 0 = (n : Int) → n ≤ bits.length → mv (bits.take n) = code l i → 0 < m → l.getD j 0 = (m : Int) → m ≤ bits.length → mv (bits.take m) = code l j → ¬ n < m := by
    intro i j n m hi hj h0 hn hnl he h0' hm hml he' hlt
    obtain ⟨_, _, hci, _⟩ := code_eq h ho i hi n h0 hn
    obtain ⟨hcj, _, _, h15⟩ := code_eq h ho j hj m h0' hm
    have hr := (rank_lt l j hj).1
    have hg := grow (l := l) n m h0 hlt h15
    have hs : bits.take m = bits.take n ++ (bits.take m).drop n := by
      have := List.take_append_drop n (bits.take m)
      rw [List.take_take, Nat.min_eq_left (by omega)] at this
      exact this.symm
    have hd : ((bits.take m).drop n).length = m - n := by simp; omega
    have hb2 := mv_bd ((hb.take m).drop n)
    have hma := mv_append (bits.take n) ((bits.take m).drop n)
    rw [← hs] at hma
    rw [hd] at hb2 hma
    have hp := p2_pos (m - n)
    have : (mv (bits.take n) + 1) * 2 ^ (m - n) ≤ (fc l n + cnt l (n : Int)) * 2 ^ (m - n) := Int.mul_le_mul_of_nonneg_right (by omega) (by omega)
    rw [Int.add_mul] at this
    omega
  obtain ⟨hi1, n, h0, hn, hnl, he⟩ := hi
  obtain ⟨hj1, m, h0', hm, hml, he'⟩ := hj
  have h1 := main i j n m hi1 hj1 h0 hn hnl he h0' hm hml he'
  have h2 := main j i m n hj1 hi1 h0' hm hml he' h0 hn hnl he
  obtain rfl : n = m := by omega
  obtain ⟨hci, _⟩ := code_eq h ho i hi1 n h0 hn
  obtain ⟨hcj, _⟩ := code_eq h ho j hj1 n h0 hm
  rcases Nat.lt_trichotomy i j with hlt | heq | hgt
  · have := rank_lt_of l i j hlt hj1 (by rw [hn, hm]); omega
  · exact heq
  · have := rank_lt_of l j i hgt hi1 (by rw [hn, hm]); omega

/-- A symbol that stands in bits is told. -/
theorem told_match {l : List Int} (h : mayB l = true) (ho : Octets l) {bits : List Int} (hb : Bit bits) {j : Nat} (n : Nat) (hm : Match l j bits) (hn : l.getD j 0 = (n : Int)) : told l bits = .sym (j : Int) n := by
  have hr := told_right h ho bits hb
  cases ht : told l bits with
  | sym s m =>
    rw [ht] at hr
    obtain ⟨i, rfl, hi, him⟩ := hr
    obtain rfl := match_one h ho hb hi hm
    rw [hn] at him
    obtain rfl : n = m := by omega
    rfl
  | short => rw [ht] at hr; exact absurd hm (hr.1 j)
  | form => rw [ht] at hr; exact absurd hm (hr.1 j)
theorem told_short {l : List Int} (h : mayB l = true) (ho : Octets l) {bits : List Int} (hb : Bit bits) (hm : ∀ j, ¬ Match l j bits) {j : Nat} (hp : Pre l j bits) : told l bits = .short := by
  have hr := told_right h ho bits hb
  cases ht : told l bits with
  | sym s m => rw [ht] at hr; obtain ⟨i, _, hi, _⟩ := hr; exact absurd hi (hm i)
  | short => rfl
  | form => rw [ht] at hr; exact absurd hp (hr.2 j)
theorem told_form {l : List Int} (h : mayB l = true) (ho : Octets l) {bits : List Int} (hb : Bit bits) (hm : ∀ j, ¬ Match l j bits) (hp : ∀ j, ¬ Pre l j bits) : told l bits = .form := by
  have hr := told_right h ho bits hb
  cases ht : told l bits with
  | sym s m => rw [ht] at hr; obtain ⟨i, _, hi, _⟩ := hr; exact absurd hi (hm i)
  | short => rw [ht] at hr; obtain ⟨i, hi⟩ := hr.2; exact absurd hi (hp i)
  | form => rfl

/-- A symbol's bits. -/
def bitsAt (l : List Int) (s : Nat) : List Int := (num (code l s) (l.getD s 0).toNat).reverse
theorem match_iff {l : List Int} (h : mayB l = true) (ho : Octets l) {bits : List Int} (hb : Bit bits) {s n : Nat} (hs : s < l.length) (h0 : 0 < n) (hn : l.getD s 0 = (n : Int)) (hl : n ≤ bits.length) :
    Match l s bits ↔ bitsAt l s = bits.take n := by
  obtain ⟨_, hc0, hc1, h15⟩ := code_eq h ho s hs n h0 hn
  have hle := fc_cnt_le h ho n h0 h15
  have hlen : (bits.take n).length = n := by simp; omega
  have hsame := same_iff (code l s) n n (Nat.le_refl _) ⟨hc0, by omega⟩ (hb.take n) hlen
  rw [List.take_of_length_le (by simp [num_length]), Nat.sub_self] at hsame
  simp only [Int.pow_zero, Int.ediv_one] at hsame
  unfold bitsAt
  rw [hn, Int.toNat_natCast, hsame]
  constructor
  · rintro ⟨_, m, _, hm, _, he⟩
    obtain rfl : n = m := by omega
    exact he
  · intro he
    exact ⟨hs, n, h0, hn, hl, he⟩
theorem pre_iff {l : List Int} (h : mayB l = true) (ho : Octets l) {bits : List Int} (hb : Bit bits) {s n : Nat} (hs : s < l.length) (h0 : 0 < n) (hn : l.getD s 0 = (n : Int)) (hl : bits.length < n) :
    Pre l s bits ↔ (bitsAt l s).take bits.length = bits := by
  obtain ⟨_, hc0, hc1, h15⟩ := code_eq h ho s hs n h0 hn
  have hle := fc_cnt_le h ho n h0 h15
  have hsame := same_iff (code l s) n bits.length (by omega) ⟨hc0, by omega⟩ hb rfl
  unfold bitsAt
  rw [hn, Int.toNat_natCast, hsame]
  constructor
  · rintro ⟨_, m, _, hm, _, he⟩
    obtain rfl : n = m := by omega
    exact he
  · intro he
    exact ⟨hs, n, h0, hn, hl, he⟩

/-- The place of a symbol that is told lies among them. -/
theorem place_ok {l : List Int} (n : Nat) (h1 : 1 ≤ n) (h15 : n ≤ 15) (x : Int) (hx : fc l n ≤ x) (hc : x - fc l n < cnt l (n : Int)) :
    0 ≤ ahead l n + x - fc l n ∧ (ahead l n + x - fc l n).toNat < (syms l 15).length := by
  obtain ⟨k, hk⟩ := Int.eq_ofNat_of_zero_le (show 0 ≤ x - fc l n by omega)
  obtain ⟨j, hjx, _⟩ := sym_at (l := l) n k (by omega)
  have hsy := syms_get n h1 h15 k _ hjx
  have hlt : (syms l (n - 1)).length + k < (syms l 15).length := by
    rcases Nat.lt_or_ge ((syms l (n - 1)).length + k) (syms l 15).length with h' | h'
    · exact h'
    · rw [List.getElem?_eq_none h'] at hsy; cases hsy
  unfold ahead
  omega
end Go.Proofs.YthmkeflkhocobaaDoor.Huf

namespace Go.Proofs.YthmkeflkhocobaaDoor.Huf
open Go.RowKit Go.Proofs.YthmkeflkhocobaaDoor.Kit Go.Proofs.YthmkeflkhocobaaDoor.Bits

theorem val_one (b : Int) : val [b] = b := by simp [val]

/-- The next bit, and what it tells. -/
theorem bit_step {X : List Int} (hX : Bit X) {p k : Nat} (h : p + k < X.length) :
    ∃ b, 0 ≤ b ∧ b ≤ 1 ∧ (X.drop p).drop k = b :: (X.drop p).drop (k + 1) ∧ val ((X.drop (p + k)).take 1) = b ∧ mv ((X.drop p).take (k + 1)) = 2 * mv ((X.drop p).take k) + b := by
  have hb := hX _ (List.getElem_mem h)
  have hcons : X.drop (p + k) = X[p + k] :: X.drop (p + k + 1) := List.drop_eq_getElem_cons h
  refine ⟨X[p + k], hb.1, by omega, ?_, ?_, ?_⟩
  · rw [List.drop_drop, List.drop_drop, hcons]; rfl
  · rw [hcons]
    exact val_one _
  · have he : (X.drop p).take (k + 1) = (X.drop p).take k ++ [X[p + k]] := by
      rw [List.take_add_one, List.getElem?_drop, List.getElem?_eq_getElem h]
      rfl
    rw [he, mv_snoc]

theorem mv_small {X : List Int} (hX : Bit X) (p : Nat) {k : Nat} (hk : k ≤ 15) : 0 ≤ mv ((X.drop p).take k) ∧ mv ((X.drop p).take k) ≤ 32767 := by
  have h1 := mv_bd (p := (X.drop p).take k) (fun x hx => hX x (List.mem_of_mem_drop (List.mem_of_mem_take hx)))
  have h2 : ((X.drop p).take k).length ≤ 15 := Nat.le_trans (List.length_take_le _ _) hk
  have h3 : (2 : Int) ^ ((X.drop p).take k).length ≤ 2 ^ 15 := by
    have := Nat.pow_le_pow_right (n := 2) (by omega) h2
    have h4 := Int.ofNat_le.2 this
    rw [Int.natCast_pow, Int.natCast_pow] at h4
    exact h4
  rw [show (2 : Int) ^ 15 = 32768 by decide] at h3
  omega

theorem ahead_bd (l : List Int) (hs : (syms l 15).length ≤ 4500) (k : Nat) (hk : k ≤ 14) : 0 ≤ ahead l (k + 1) ∧ ahead l (k + 1) ≤ 4500 := by
  obtain ⟨t, ht⟩ := syms_prefix l k (15 - k)
  rw [show k + (15 - k) = 15 by omega] at ht
  have := congrArg List.length ht
  rw [List.length_append] at this
  unfold ahead
  rw [Nat.add_sub_cancel]
  omega

theorem fc_next (l : List Int) (k : Nat) : fc l (k + 1 + 1) = 2 * (fc l (k + 1) + cnt l ((k + 1 : Nat) : Int)) := by
  rw [fc, if_neg (by omega)]

theorem syms_mem {l : List Int} : ∀ {n : Nat} {x : Int}, x ∈ syms l n → 0 ≤ x ∧ x < l.length
  | 0, _, h => by simp [syms] at h
  | n + 1, x, h => by
    rw [syms] at h
    rcases List.mem_append.1 h with h | h
    · exact syms_mem h
    · unfold idx at h
      obtain ⟨j, hj, rfl⟩ := List.mem_map.1 h
      have := List.mem_range.1 (List.mem_filter.1 hj).1
      omega
theorem syms_bd (l : List Int) (hl : l.length ≤ 300) (i : Nat) : 0 ≤ (syms l 15)[i]?.getD 0 ∧ (syms l 15)[i]?.getD 0 ≤ 300 := by
  rcases Nat.lt_or_ge i (syms l 15).length with h | h
  · rw [List.getElem?_eq_getElem h]
    have := syms_mem (List.getElem_mem h)
    simp only [Option.getD_some]
    omega
  · rw [List.getElem?_eq_none h]
    simp
end Go.Proofs.YthmkeflkhocobaaDoor.Huf
