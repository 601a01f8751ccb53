/-
  Layer 13, inflate: where reading stops, however a text is cut: plain. No program. No conditions beyond what each theorem names.
  Layer 13, inflate: how the document reads: plain. No program. No conditions beyond what each theorem names.
  Layer 13, inflate: how the document reads blocks: plain. No program. No conditions beyond what each theorem names.
  Layer 13, inflate: the lengths that are the same always: the program's contract. Conditions: as each theorem names.
  Layer 13, inflate: a row of lengths: the program's contract. Conditions: as each theorem names.
  Layer 13, inflate: a dynamic block's lengths: the program's contract. Conditions: the table of turns holds what the program's text lays; and as each theorem names.
  Layer 13, inflate: what the steps stand on; a match: the program's contract. Conditions: as each theorem names.
  Layer 13, inflate: a symbol, and what belongs to it: the program's contract. Conditions: as each theorem names.
-/
import Derived.Test.YthmkeflkhocobaaDoorMInR
import Derived.Test.YthmkeflkhocobaaDoorMDfS
namespace Go.Proofs.YthmkeflkhocobaaDoor.Inf
open Go.RowKit Go.Proofs.YthmkeflkhocobaaDoor.Kit Go.Proofs.YthmkeflkhocobaaDoor.Bits Go.Proofs.YthmkeflkhocobaaDoor.Huf Go.Proofs.YthmkeflkhocobaaDoor.Df

/-- From one place another one is reached, step by step. -/
inductive Reach (most : Int) (b : List Int) (s : St) (p : Nat) : St → Nat → Prop where
  | refl : Reach most b s p s p
  | step {s1 s2 : St} {p1 p2 : Nat} : Reach most b s p s1 p1 → s1.ph ≠ 3 → stepG most s1 b p1 = .ok s2 p2 → Reach most b s p s2 p2
/-- There it stops: at the end (0, or 3: there is more), where bits are missing (2), or where it is wrong. -/
def Ends (most : Int) (b : List Int) (s : St) (p : Nat) (e : Int) : Prop :=
  (s.ph = 3 ∧ e = if (p + 7) / 8 * 8 < b.length then 3 else 0) ∨ (s.ph ≠ 3 ∧ ((stepG most s b p = .miss ∧ e = 2) ∨ stepG most s b p = .bad e))

theorem Reach.trans {most : Int} {b : List Int} {s t u : St} {p q r : Nat} (h : Reach most b s p t q) (g : Reach most b t q u r) : Reach most b s p u r := by
  induction g with
  | refl => exact h
  | step _ h3 hs ih => exact .step ih h3 hs
/-- Of two places that are reached from one, one is reached from the other. -/
theorem Reach.line {most : Int} {b : List Int} {s t u : St} {p q r : Nat} (h : Reach most b s p t q) (g : Reach most b s p u r) : Reach most b t q u r ∨ Reach most b u r t q := by
  induction g with
  | refl => exact .inr h
  | step g0 h3 hs ih =>
    rcases ih with ih | ih
    · exact .inl (.step ih h3 hs)
    · have key : ∀ {x y : St} {m n : Nat}, Reach most b x m y n → (x = y ∧ m = n) ∨ ∃ z k, x.ph ≠ 3 ∧ stepG most x b m = .ok z k ∧ Reach most b z k y n := by
        intro x y m n hr
        induction hr with
        | refl => exact .inl ⟨rfl, rfl⟩
        | step _ k3 ks ihr =>
          rcases ihr with ⟨rfl, rfl⟩ | ⟨z, k, h1, h2, h4⟩
          · exact .inr ⟨_, _, k3, ks, .refl⟩
          · exact .inr ⟨z, k, h1, h2, .step h4 k3 ks⟩
      rcases key ih with ⟨rfl, rfl⟩ | ⟨z, k, h1, h2, h4⟩
      · exact .inl (.step (.refl) h3 hs)
      · rw [hs] at h2
        injection h2 with e1 e2
        subst e1 e2
        exact .inr h4
theorem Ends.stuck {most : Int} {b : List Int} {s t : St} {p q : Nat} {e : Int} (h : Ends most b s p e) (g : Reach most b s p t q) : s = t ∧ p = q := by
  induction g with
  | refl => exact ⟨rfl, rfl⟩
  | step _ h3 hs ih =>
    obtain ⟨rfl, rfl⟩ := ih
    rcases h with ⟨h, _⟩ | ⟨_, ⟨h, _⟩ | h⟩
    · exact absurd h h3
    · rw [hs] at h; cases h
    · rw [hs] at h; cases h
theorem Ends.one {most : Int} {b : List Int} {s : St} {p : Nat} {e f : Int} (h : Ends most b s p e) (g : Ends most b s p f) : e = f := by
  rcases h with ⟨h, rfl⟩ | ⟨h, ⟨h1, rfl⟩ | h1⟩ <;> rcases g with ⟨g, rfl⟩ | ⟨g, ⟨g1, rfl⟩ | g1⟩
  · rfl
  · exact absurd h g
  · exact absurd h g
  · exact absurd g h
  · rfl
  · rw [h1] at g1; cases g1
  · exact absurd g h
  · rw [h1] at g1; cases g1
  · rw [h1] at g1; injection g1
/-- It stops at one place only. -/
theorem ends_one {most : Int} {b : List Int} {s t u : St} {p q r : Nat} {e f : Int} (h : Reach most b s p t q) (he : Ends most b t q e) (g : Reach most b s p u r) (hf : Ends most b u r f) : t = u ∧ q = r ∧ e = f := by
  rcases h.line g with k | k
  · obtain ⟨rfl, rfl⟩ := he.stuck k
    exact ⟨rfl, rfl, he.one hf⟩
  · obtain ⟨rfl, rfl⟩ := hf.stuck k
    exact ⟨rfl, rfl, he.one hf⟩
theorem Reach.ok {most : Int} {b : List Int} {s t : St} {p q : Nat} (hb : Bit b) (h8 : b.length % 8 = 0) (hp : p ≤ b.length) (hs : SOk most s p) (h : Reach most b s p t q) : SOk most t q ∧ s.out <+: t.out ∧ p ≤ q ∧ q ≤ b.length ∧ todo b.length t q ≤ todo b.length s p := by
  induction h with
  | refl => exact ⟨hs, List.prefix_refl _, by omega, hp, by omega⟩
  | step _ h3 hk ih =>
    obtain ⟨i1, i2, i3, i4, i5⟩ := ih
    have k := step_ok hb h8 i4 i1 h3 hk
    have := k.le
    have := k.less
    exact ⟨k.ok, i2.trans k.out, by omega, by omega, by omega⟩
theorem Reach.more {most : Int} {b : List Int} {s t : St} {p q : Nat} (c : List Int) (hb : Bit b) (h8 : b.length % 8 = 0) (hp : p ≤ b.length) (hs : SOk most s p) (h : Reach most b s p t q) : Reach most (b ++ c) s p t q := by
  induction h with
  | refl => exact .refl
  | step h0 h3 hk ih =>
    have k := (h0.ok hb h8 hp hs).2.2.2.1
    exact .step ih h3 (by rw [(fine_step _ _).more b c _ h8 k (by rw [hk]; simp), hk])
theorem Reach.shift {most : Int} {b : List Int} {s t : St} {p q k : Nat} (hb : Bit b) (h8 : b.length % 8 = 0) (hk : 8 * k ≤ p) (hp : p ≤ b.length) (hs : SOk most s p) (h : Reach most (b.drop (8 * k)) s (p - 8 * k) t q) : Reach most b s p t (q + 8 * k) := by
  have gen : ∀ {x : St} {n : Nat}, Reach most (b.drop (8 * k)) s (p - 8 * k) x n → Reach most b s p x (n + 8 * k) := by
    intro x n hr
    have hp' : ∀ m, m = p - 8 * k → Reach most b s p s (m + 8 * k) := by
      intro m hm
      rw [show m + 8 * k = p by omega]
      exact .refl
    induction hr with
    | refl => exact hp' _ rfl
    | step h0 h3 hk2 ih =>
      have ih' := ih
      have i4 := (ih'.ok hb h8 hp hs).2.2.2.1
      rename_i s1 s2 p1 p2
      have sh := (fine_step most s1).shift b (p1 + 8 * k) k h8 (by omega) i4
      rw [Nat.add_sub_cancel, hk2] at sh
      cases hst : stepG most s1 b (p1 + 8 * k) with
      | miss => rw [hst] at sh; cases sh
      | bad e => rw [hst] at sh; cases sh
      | ok a r =>
        rw [hst] at sh
        injection sh with e1 e2
        have hle := (fine_step most s1).le b _ _ _ h8 i4 hst
        subst e1
        refine .step ih' h3 ?_
        rw [hst, show r = p2 + 8 * k by omega]
  exact gen h
theorem Ends.shift {most : Int} {b : List Int} {s : St} {p k : Nat} {e : Int} (h8 : b.length % 8 = 0) (hp : p + 8 * k ≤ b.length) (h : Ends most (b.drop (8 * k)) s p e) : Ends most b s (p + 8 * k) e := by
  have sh := (fine_step most s).shift b (p + 8 * k) k h8 (by omega) hp
  rw [Nat.add_sub_cancel] at sh
  rcases h with ⟨h, rfl⟩ | ⟨h, ⟨h1, rfl⟩ | h1⟩
  · refine .inl ⟨h, ?_⟩
    rw [List.length_drop]
    by_cases c : (p + 7) / 8 * 8 < b.length - 8 * k
    · rw [if_pos c, if_pos (by omega)]
    · rw [if_neg c, if_neg (by omega)]
  · rw [h1] at sh
    refine .inr ⟨h, .inl ⟨?_, rfl⟩⟩
    cases hst : stepG most s b (p + 8 * k) with
    | miss => rfl
    | bad e => rw [hst] at sh; cases sh
    | ok a r => rw [hst] at sh; cases sh
  · rw [h1] at sh
    refine .inr ⟨h, .inr ?_⟩
    cases hst : stepG most s b (p + 8 * k) with
    | miss => rw [hst] at sh; cases sh
    | bad e' => rw [hst] at sh; injection sh with sh; rw [sh]
    | ok a r => rw [hst] at sh; cases sh
theorem Ends.errs {most : Int} {b : List Int} {s : St} {p : Nat} {e : Int} (h : Ends most b s p e) : e = 0 ∨ e = 2 ∨ e = 3 ∨ e = 11 ∨ e = 12 := by
  rcases h with ⟨h, rfl⟩ | ⟨h, ⟨h1, rfl⟩ | h1⟩
  · split <;> omega
  · omega
  · have := (fine_step most s).errs b p e h1
    omega
theorem Ends.more {most : Int} {b : List Int} {s : St} {p : Nat} {e : Int} (c : List Int) (h8 : b.length % 8 = 0) (hp : p ≤ b.length) (h : Ends most b s p e) (he : e ≠ 0) (he2 : e ≠ 2) : Ends most (b ++ c) s p e := by
  rcases h with ⟨h, rfl⟩ | ⟨h, ⟨h1, rfl⟩ | h1⟩
  · by_cases hc : (p + 7) / 8 * 8 < b.length
    · rw [if_pos hc]
      exact .inl ⟨h, by rw [List.length_append, if_pos (by omega)]⟩
    · rw [if_neg hc] at he
      exact absurd rfl he
  · exact absurd rfl he2
  · exact .inr ⟨h, .inr (by rw [(fine_step _ _).more b c p h8 hp (by rw [h1]; simp), h1])⟩

/-- The begin. -/
def St.new : St := ⟨0, false, 0, [], [], []⟩
theorem new_ok (most : Int) (hm : 0 ≤ most) : SOk most St.new 0 := ⟨.inl rfl, by simpa [St.new] using hm, fun _ h => absurd h (by simp [St.new]), fun e => absurd e (by simp [St.new]), fun e => absurd e (by simp [St.new]), ⟨by simp [St.new], by simp [St.new]⟩, fun _ => ⟨rfl, rfl⟩⟩
/-- So far it is read: bytes b came, it stands at s, behind p bits, and e is what is to be told. -/
structure Stands (most : Int) (b : List Int) (s : St) (p : Nat) (e : Int) : Prop where
  reach : Reach most (bitsOf b) St.new 0 s p
  ends : Ends most (bitsOf b) s p e
theorem Stands.one {most : Int} {b : List Int} {s t : St} {p q : Nat} {e f : Int} (h : Stands most b s p e) (g : Stands most b t q f) : s = t ∧ p = q ∧ e = f := ends_one h.reach h.ends g.reach g.ends
/-- How many bytes are behind for good, and how many bits of the next one. -/
def doneP (s : St) (p : Nat) : Nat := if s.ph = 3 then (p + 7) / 8 * 8 else p
theorem bits8 (b : List Int) : (bitsOf b).length % 8 = 0 := by rw [bitsOf_length]; omega
theorem bits_drop : ∀ (b : List Int) (k : Nat), bitsOf (b.drop k) = (bitsOf b).drop (8 * k)
  | b, 0 => by simp
  | [], k + 1 => by simp [bitsOf]
  | x :: b, k + 1 => by
    have e : bitsOf (x :: b) = bitsOf [x] ++ bitsOf b := by rw [← bitsOf_append]; rfl
    have hl : (bitsOf [x]).length = 8 := by rw [bitsOf_length]; rfl
    rw [List.drop_succ_cons, bits_drop b k, e, List.drop_append, List.drop_of_length_le (l := bitsOf [x]) (by omega), List.nil_append, hl, show 8 * (k + 1) - 8 = 8 * k by omega]
theorem Stands.le {most : Int} {b : List Int} {s : St} {p : Nat} {e : Int} (hm : 0 ≤ most) (h : Stands most b s p e) : SOk most s p ∧ p ≤ 8 * b.length ∧ doneP s p ≤ 8 * b.length := by
  have k := h.reach.ok (bitsOf_bit b) (bits8 b) (Nat.zero_le _) (new_ok most hm)
  rw [bitsOf_length] at k
  refine ⟨k.1, k.2.2.2.1, ?_⟩
  unfold doneP
  split <;> omega
/-- A further piece. -/
theorem Stands.next {most : Int} {b c : List Int} {s t : St} {p q : Nat} {e f : Int} (hm : 0 ≤ most) (h : Stands most b s p e) (he : e = 0 ∨ e = 2)
    (hr : Reach most (bitsOf (b.drop (doneP s p / 8) ++ c)) s (doneP s p % 8) t q) (hf : Ends most (bitsOf (b.drop (doneP s p / 8) ++ c)) t q f) :
    ∃ r, Stands most (b ++ c) t r f ∧ doneP t r = doneP t q + 8 * (doneP s p / 8) := by
  obtain ⟨ho, hp, hd⟩ := h.le hm
  have hmore := h.reach.more (bitsOf c) (bitsOf_bit b) (bits8 b) (Nat.zero_le _) (new_ok most hm)
  rw [← bitsOf_append] at hmore
  have hdrop : bitsOf (b.drop (doneP s p / 8) ++ c) = (bitsOf (b ++ c)).drop (8 * (doneP s p / 8)) := by
    rw [← bits_drop, List.drop_append_of_le_length (by omega)]
  have hL : (bitsOf (b ++ c)).length = 8 * b.length + 8 * c.length := by rw [bitsOf_length, List.length_append]; omega
  rw [hdrop] at hr hf
  by_cases h3 : s.ph = 3
  · have hst : ∀ {x : St} {m n : Nat} {B : List Int}, Reach most B s m x n → x = s ∧ n = m := by
      intro x m n B hr
      induction hr with
      | refl => exact ⟨rfl, rfl⟩
      | step _ k3 _ ih => exact absurd (by rw [ih.1]; exact h3) k3
    obtain ⟨rfl, rfl⟩ := hst hr
    have hd3 : doneP t p = (p + 7) / 8 * 8 := by unfold doneP; rw [if_pos h3]
    have hd0 : doneP t p % 8 = 0 := by omega
    refine ⟨p, ⟨hmore, ?_⟩, ?_⟩
    · rcases hf with ⟨_, rfl⟩ | ⟨k3, _⟩
      · refine .inl ⟨h3, ?_⟩
        rw [List.length_drop, hL, hd0]
        by_cases c1 : (0 + 7) / 8 * 8 < 8 * b.length + 8 * c.length - 8 * (doneP t p / 8)
        · rw [if_pos c1, if_pos (by omega)]
        · rw [if_neg c1, if_neg (by omega)]
      · exact absurd h3 k3
    · have : doneP t (doneP t p % 8) = 0 := by rw [hd0]; unfold doneP; rw [if_pos h3]
      omega
  · have hd3 : doneP s p = p := by unfold doneP; rw [if_neg h3]
    rw [hd3] at hr hf ⊢
    have e1 : p % 8 = p - 8 * (p / 8) := by omega
    rw [e1] at hr
    have hr2 := hr.shift (bitsOf_bit _) (bits8 _) (by omega) (by omega) ho
    have hq : q + 8 * (p / 8) ≤ (bitsOf (b ++ c)).length := (hr2.ok (bitsOf_bit _) (bits8 _) (by omega) ho).2.2.2.1
    refine ⟨q + 8 * (p / 8), ⟨hmore.trans hr2, hf.shift (bits8 _) hq⟩, ?_⟩
    unfold doneP
    split <;> omega
/-- What is wrong stays wrong. -/
theorem Stands.stays {most : Int} {b : List Int} {s : St} {p : Nat} {e : Int} (c : List Int) (hm : 0 ≤ most) (h : Stands most b s p e) (he : e ≠ 0) (he2 : e ≠ 2) : Stands most (b ++ c) s p e := by
  have h1 := h.reach.more (bitsOf c) (bitsOf_bit b) (bits8 b) (Nat.zero_le _) (new_ok most hm)
  have h2 := h.ends.more (bitsOf c) (bits8 b) (by rw [bitsOf_length]; exact (h.le hm).2.1) he he2
  rw [← bitsOf_append] at h1 h2
  exact ⟨h1, h2⟩
/-- What was told of a begin is a begin of what is told. -/
theorem Stands.begin {most : Int} {b c : List Int} {s t : St} {p q : Nat} {e f : Int} (hm : 0 ≤ most) (h : Stands most b s p e) (g : Stands most (b ++ c) t q f) : s.out <+: t.out := by
  have h1 := h.reach.more (bitsOf c) (bitsOf_bit b) (bits8 b) (Nat.zero_le _) (new_ok most hm)
  rw [← bitsOf_append] at h1
  have h2 := h1.ok (bitsOf_bit _) (bits8 _) (Nat.zero_le _) (new_ok most hm)
  rcases h1.line g.reach with k | k
  · exact (k.ok (bitsOf_bit _) (bits8 _) h2.2.2.2.1 h2.1).2.1
  · obtain ⟨rfl, _⟩ := g.ends.stuck k
    exact List.prefix_refl _
/-- It stops somewhere. -/
theorem stops {most : Int} {b : List Int} (hb : Bit b) (h8 : b.length % 8 = 0) : ∀ (n : Nat) {s : St} {p : Nat}, todo b.length s p < n → p ≤ b.length → SOk most s p → ∃ t q e, Reach most b s p t q ∧ Ends most b t q e
  | 0, _, _, h, _, _ => absurd h (by omega)
  | n + 1, s, p, h, hp, hs => by
    by_cases h3 : s.ph = 3
    · exact ⟨s, p, _, .refl, .inl ⟨h3, rfl⟩⟩
    · cases hk : stepG most s b p with
      | miss => exact ⟨s, p, 2, .refl, .inr ⟨h3, .inl ⟨hk, rfl⟩⟩⟩
      | bad e => exact ⟨s, p, e, .refl, .inr ⟨h3, .inr hk⟩⟩
      | ok s' q =>
        have k := step_ok hb h8 hp hs h3 hk
        obtain ⟨t, r, e, h1, h2⟩ := stops hb h8 n (s := s') (p := q) (by have := k.less; omega) k.le.2 k.ok
        exact ⟨t, r, e, Reach.trans (.step (.refl) h3 hk) h1, h2⟩
theorem stands_some (most : Int) (hm : 0 ≤ most) (b : List Int) : ∃ s p e, Stands most b s p e := by
  obtain ⟨t, q, e, h1, h2⟩ := stops (most := most) (bitsOf_bit b) (bits8 b) _ (Nat.lt_succ_self _) (Nat.zero_le _) (new_ok most hm)
  exact ⟨t, q, e, h1, h2⟩
/-- What is kept, where bits are missing, are few bytes. -/
theorem Stands.few {most : Int} {b : List Int} {s : St} {p : Nat} {e : Int} (hm : 0 ≤ most) (h : Stands most b s p e) (he : e = 0 ∨ e = 2) : b.length - doneP s p / 8 ≤ 901 := by
  obtain ⟨_, hp, _⟩ := h.le hm
  rcases h.ends with ⟨h3, h4⟩ | ⟨h3, ⟨h1, _⟩ | h1⟩
  · have hd3 : doneP s p = (p + 7) / 8 * 8 := by unfold doneP; rw [if_pos h3]
    rw [bitsOf_length] at h4
    split at h4 <;> omega
  · have hd3 : doneP s p = p := by unfold doneP; rw [if_neg h3]
    have := (fine_step most s).lack _ p (bits8 b) (by rw [bitsOf_length]; exact hp) h1
    rw [bitsOf_length] at this
    omega
  · have := (fine_step most s).errs _ _ _ h1
    omega
/-- n bytes of a stored block, one after the other. -/
theorem reach_bytes {most : Int} {bs : List Int} (hob : Octets bs) : ∀ (n : Nat) {s : St} {j : Nat}, s.ph = 1 → n < s.left → j + n ≤ bs.length → Reach most (bitsOf bs) s (8 * j) { s with left := s.left - n, out := s.out ++ (bs.drop j).take n } (8 * (j + n))
  | 0, s, j, h1, hn, hj => by
    simp only [List.take_zero, List.append_nil]
    exact .refl
  | n + 1, s, j, h1, hn, hj => by
    have ih := reach_bytes (most := most) hob n (s := s) (j := j) h1 (by omega) (by omega)
    have hb : val (((bitsOf bs).drop (8 * (j + n))).take 8) = bs[j + n] := by
      rw [← bits_drop, List.drop_eq_getElem_cons (by omega)]
      have e : bitsOf (bs[j + n] :: bs.drop (j + n + 1)) = bitsOf [bs[j + n]] ++ bitsOf (bs.drop (j + n + 1)) := by rw [← bitsOf_append]; rfl
      have hl : (bitsOf [bs[j + n]]).length = 8 := by rw [bitsOf_length]; rfl
      rw [e, List.take_append_of_le_length (by omega), List.take_of_length_le (by omega)]
      have ho1 := hob bs[j + n] (List.getElem_mem _)
      have : bitsOf [bs[j + n]] = num bs[j + n] 8 := by simp [bitsOf]
      rw [this, val_num]
      omega
    refine .step ih (by simp only; omega) ?_
    unfold stepG
    rw [if_neg (by simp only; omega), if_pos (by simpa using h1)]
    unfold byteG
    rw [if_neg (by simp only; omega)]
    have hk : numG 8 (bitsOf bs) (8 * (j + n)) = .ok bs[j + n] (8 * (j + n) + 8) := by
      unfold numG
      rw [if_pos (by rw [bitsOf_length]; omega), hb]
    rw [bindG_ok _ hk, if_neg (by simp only; omega)]
    simp only [pureG]
    rw [show 8 * (j + n) + 8 = 8 * (j + (n + 1)) by omega, List.append_assoc, show s.left - n - 1 = s.left - (n + 1) by omega]
    have ht : (bs.drop j).take (n + 1) = (bs.drop j).take n ++ [bs[j + n]] := by
      rw [List.take_add_one, List.getElem?_drop, List.getElem?_eq_getElem (by omega)]
      rfl
    rw [ht]
end Go.Proofs.YthmkeflkhocobaaDoor.Inf

namespace Go.Proofs.YthmkeflkhocobaaDoor.Inf
open Go.RowKit Go.Proofs.YthmkeflkhocobaaDoor.Kit Go.Proofs.YthmkeflkhocobaaDoor.Bits Go.Proofs.YthmkeflkhocobaaDoor.Huf Go.Proofs.YthmkeflkhocobaaDoor.Df

/-- Where the document stands: the place, what was told, the error. -/
structure DS where
  p : Nat
  out : List Int
  e : Int
def numD (n : Nat) (b : List Int) (d : DS) : Int × DS := if d.e ≠ 0 then (0, d) else if b.length < d.p + n then (0, { d with e := 2 }) else (val ((b.drop d.p).take n), { d with p := d.p + n })
def symD (l : List Int) (b : List Int) (d : DS) : Int × DS := if d.e ≠ 0 then (0, d) else match told l (b.drop d.p) with
  | .sym s n => (s, { d with p := d.p + n })
  | .short => (0, { d with e := 2 })
  | .form => (0, { d with e := 11 })
def failD (is : Bool) (e : Int) (d : DS) : DS := if is = true ∧ d.e = 0 then { d with e := e } else d
/-- What is wrong. -/
def Err {α : Type} (e : Int) (r : Res α) : Prop := (r = .miss ∧ e = 2) ∨ r = .bad e
theorem Err.bind {α β : Type} {e : Int} {g : G α} {b : List Int} {p : Nat} (f : α → G β) (h : Err e (g b p)) : Err e (bindG g f b p) := by
  rcases h with ⟨h, rfl⟩ | h
  · exact .inl ⟨bindG_miss f h, rfl⟩
  · exact .inr (bindG_bad f h)
/-- It goes on, or stops. -/
def Goes {α : Type} (b : List Int) (d : DS) (r : Res α) (x : α) (d' : DS) : Prop := (d'.e = 0 ∧ r = .ok x d'.p ∧ d'.out = d.out ∧ d'.p ≤ b.length) ∨ (d'.e ≠ 0 ∧ Err d'.e r ∧ d'.out = d.out ∧ d'.p ≤ b.length)
theorem num_goes {n : Nat} {b : List Int} {d d' : DS} {x : Int} (h : numD n b d = (x, d')) (he : d.e = 0) (hp : d.p ≤ b.length) : Goes b d (numG n b d.p) x d' := by
  unfold numD at h
  rw [if_neg (by omega)] at h
  by_cases c : b.length < d.p + n
  · rw [if_pos c] at h
    injection h with h1 h2
    subst h2
    exact .inr ⟨by simp, .inl ⟨by unfold numG; rw [if_neg (by omega)], rfl⟩, rfl, hp⟩
  · rw [if_neg c] at h
    injection h with h1 h2
    subst h2 h1
    exact .inl ⟨he, by unfold numG; rw [if_pos (by omega)], rfl, by simp only; omega⟩
theorem num_err {n : Nat} {b : List Int} {d d' : DS} {x : Int} (h : numD n b d = (x, d')) (he : d.e ≠ 0) : x = 0 ∧ d' = d := by
  unfold numD at h
  rw [if_pos he] at h
  injection h with h1 h2
  exact ⟨h1.symm, h2.symm⟩
theorem sym_goes {l b : List Int} {d d' : DS} {x : Int} (h : symD l b d = (x, d')) (he : d.e = 0) (hp : d.p ≤ b.length) : Goes b d (symG l b d.p) x d' := by
  unfold symD at h
  rw [if_neg (by omega)] at h
  rw [symG_eq]
  cases ht : told l (b.drop d.p) with
  | sym s n =>
    rw [ht] at h
    injection h with h1 h2
    subst h2 h1
    have := told_le ht
    rw [List.length_drop] at this
    exact .inl ⟨he, rfl, rfl, by simp only; omega⟩
  | short =>
    rw [ht] at h
    injection h with h1 h2
    subst h2
    exact .inr ⟨by simp, .inl ⟨rfl, rfl⟩, rfl, hp⟩
  | form =>
    rw [ht] at h
    injection h with h1 h2
    subst h2
    exact .inr ⟨by simp, .inr rfl, rfl, hp⟩
theorem sym_err {l b : List Int} {d d' : DS} {x : Int} (h : symD l b d = (x, d')) (he : d.e ≠ 0) : x = 0 ∧ d' = d := by
  unfold symD at h
  rw [if_pos he] at h
  injection h with h1 h2
  exact ⟨h1.symm, h2.symm⟩
theorem fail_err {is : Bool} {e : Int} {d d' : DS} (h : failD is e d = d') (he : d.e ≠ 0) : d' = d := by
  unfold failD at h
  rw [if_neg (fun c => he c.2)] at h
  exact h.symm
theorem fail_goes {is : Bool} {e : Int} {d d' : DS} (b : List Int) (h : failD is e d = d') (he : d.e = 0) (hp : d.p ≤ b.length) (h0 : e ≠ 0) : Goes b d (refG is e b d.p) () d' := by
  unfold failD at h
  cases is
  · rw [if_neg (fun c => by cases c.1)] at h
    subst h
    exact .inl ⟨he, rfl, rfl, hp⟩
  · rw [if_pos ⟨rfl, he⟩] at h
    subst h
    exact .inr ⟨h0, .inr rfl, rfl, hp⟩
/-- What goes on, and then goes on, or stops. -/
theorem Goes.bind {α β : Type} {b : List Int} {d d1 d2 : DS} {g : G α} {f : α → G β} {x : α} {y : β} (h : Goes b d (g b d.p) x d1) (h1 : d1.e = 0 → Goes b d1 (f x b d1.p) y d2) (h2 : d1.e ≠ 0 → d2 = d1) : Goes b d (bindG g f b d.p) y d2 := by
  rcases h with ⟨e, hr, ho, hp⟩ | ⟨e, hr, ho, hp⟩
  · rw [bindG_ok f hr]
    rcases h1 e with ⟨e', hr', ho', hp'⟩ | ⟨e', hr', ho', hp'⟩
    · exact .inl ⟨e', hr', by rw [ho', ho], hp'⟩
    · exact .inr ⟨e', hr', by rw [ho', ho], hp'⟩
  · rw [h2 e]
    exact .inr ⟨e, hr.bind f, ho, hp⟩
theorem Goes.ok {α : Type} {b : List Int} {d d' : DS} {r : Res α} {x : α} (h : Goes b d r x d') (he : d'.e = 0) : r = .ok x d'.p ∧ d'.out = d.out ∧ d'.p ≤ b.length := by
  rcases h with ⟨_, h⟩ | ⟨e, _⟩
  · exact h
  · exact absurd he e
theorem Goes.no {α : Type} {b : List Int} {d d' : DS} {r : Res α} {x : α} (h : Goes b d r x d') (he : d'.e ≠ 0) : Err d'.e r ∧ d'.out = d.out ∧ d'.p ≤ b.length := by
  rcases h with ⟨e, _⟩ | ⟨_, h⟩
  · exact absurd e he
  · exact h
theorem told_take {l bits : List Int} : told l (bits.take 15) = told l bits := by
  by_cases h : told l (bits.take 15) = .short
  · have := go_short_le l 16 1 0 _ h
    rw [List.take_of_length_le]
    rw [List.length_take] at this
    omega
  · have e : bits.take 15 ++ bits.drop 15 = bits := List.take_append_drop 15 bits
    have := go_more l (bits.drop 15) 16 1 0 _ h
    rw [e] at this
    exact this.symm

/-- The head of a stored block: how many bytes. -/
def headG (most : Int) (n0 : Nat) : G Int := bindG alignG fun _ => bindG (numG 16) fun n => bindG (numG 16) fun m => bindG (refG (decide (n + m ≠ 65535)) 11) fun _ => bindG (refG (decide (most < n0 + n)) 12) fun _ => pureG n
theorem head_goes {most : Int} {b : List Int} {d d1 d2 d3 d4 d5 : DS} {n m : Int} (h8 : b.length % 8 = 0) (he : d.e = 0) (hp : d.p ≤ b.length) (h1 : { d with p := (d.p + 7) / 8 * 8 } = d1) (h2 : numD 16 b d1 = (n, d2)) (h3 : numD 16 b d2 = (m, d3))
    (h4 : failD (decide (n + m ≠ 65535)) 11 d3 = d4) (h5 : failD (decide (most - d.out.length < n)) 12 d4 = d5) : Goes b d (headG most d.out.length b d.p) n d5 := by
  subst h1
  have e0 : ∀ x : Int, decide (most - (d.out.length : Int) < x) = decide (most < (d.out.length : Int) + x) := fun x => decide_eq_decide.2 (by omega)
  rw [e0] at h5
  unfold headG
  refine Goes.bind (x := ()) (d1 := { d with p := (d.p + 7) / 8 * 8 }) (.inl ⟨he, rfl, rfl, by simp only; omega⟩) (fun _ => ?_) (fun e => absurd he e)
  refine Goes.bind (num_goes h2 he (by simp only; omega)) (fun c2 => ?_) (fun e => ?_)
  · have hp2 := ((num_goes h2 he (by simp only; omega)).ok c2).2.2
    refine Goes.bind (num_goes h3 c2 hp2) (fun c3 => ?_) (fun e => ?_)
    · have hp3 := ((num_goes h3 c2 hp2).ok c3).2.2
      refine Goes.bind (fail_goes b h4 c3 hp3 (by decide)) (fun c4 => ?_) (fun e => ?_)
      · have hp4 := ((fail_goes b h4 c3 hp3 (by decide)).ok c4).2.2
        refine Goes.bind (fail_goes b h5 c4 hp4 (by decide)) (fun c5 => ?_) (fun e => rfl)
        exact .inl ⟨c5, rfl, rfl, ((fail_goes b h5 c4 hp4 (by decide)).ok c5).2.2⟩
      · exact fail_err h5 e
    · rw [fail_err h4 e] at h5
      exact fail_err h5 e
  · rw [(num_err h3 e).2] at h4
    rw [fail_err h4 e] at h5
    exact fail_err h5 e
theorem Goes.refl {b : List Int} {d : DS} {α : Type} (x : α) (he : d.e = 0) (hp : d.p ≤ b.length) : Goes b d (pureG x b d.p) x d := .inl ⟨he, rfl, rfl, hp⟩
theorem Goes.le {α : Type} {b : List Int} {d d' : DS} {r : Res α} {x : α} (h : Goes b d r x d') : d'.p ≤ b.length ∧ d'.out = d.out := by
  rcases h with ⟨_, _, ho, hp⟩ | ⟨_, _, ho, hp⟩ <;> exact ⟨hp, ho⟩
/-- A match, as the document reads it. -/
theorem match_goes {ds b : List Int} {most : Int} {n0 : Nat} {d d1 d2 d3 d4 d5 d6 d7 : DS} {x k dd j : Int} (he : d.e = 0) (hp : d.p ≤ b.length)
    (h1 : failD (decide (28 < x)) 11 d = d1) (h2 : numD (lmore x).toNat b d1 = (k, d2)) (h3 : symD ds b d2 = (dd, d3)) (h4 : failD (decide (29 < dd)) 11 d3 = d4) (h5 : numD (dmore dd).toNat b d4 = (j, d5))
    (h6 : failD (decide ((n0 : Int) < dists.getD dd.toNat 0 + j)) 11 d5 = d6) (h7 : failD (decide (most - n0 < lens.getD x.toNat 0 + k)) 12 d6 = d7) :
    Goes b d (matchG x ds n0 most b d.p) (lens.getD x.toNat 0 + k, dists.getD dd.toNat 0 + j) d7 := by
  have e0 : ∀ y : Int, decide (most - (n0 : Int) < y) = decide (most < (n0 : Int) + y) := fun y => decide_eq_decide.2 (by omega)
  rw [e0] at h7
  unfold matchG
  have g1 := fail_goes b h1 he hp (by decide)
  refine Goes.bind g1 (fun c1 => ?_) (fun e => ?_)
  · have g2 := num_goes h2 c1 g1.le.1
    refine Goes.bind g2 (fun c2 => ?_) (fun e => ?_)
    · have g3 := sym_goes h3 c2 g2.le.1
      refine Goes.bind g3 (fun c3 => ?_) (fun e => ?_)
      · have g4 := fail_goes b h4 c3 g3.le.1 (by decide)
        refine Goes.bind g4 (fun c4 => ?_) (fun e => ?_)
        · have g5 := num_goes h5 c4 g4.le.1
          refine Goes.bind g5 (fun c5 => ?_) (fun e => ?_)
          · have g6 := fail_goes b h6 c5 g5.le.1 (by decide)
            refine Goes.bind g6 (fun c6 => ?_) (fun e => ?_)
            · have g7 := fail_goes b h7 c6 g6.le.1 (by decide)
              exact Goes.bind g7 (fun c7 => Goes.refl _ c7 g7.le.1) (fun e => rfl)
            · exact fail_err h7 e
          · rw [fail_err h6 e] at h7
            exact fail_err h7 e
        · have e5 := (num_err h5 e).2
          rw [e5] at h6
          rw [fail_err h6 e] at h7
          exact fail_err h7 e
      · rw [fail_err h4 e] at h5
        rw [(num_err h5 e).2] at h6
        rw [fail_err h6 e] at h7
        exact fail_err h7 e
    · rw [(sym_err h3 e).2] at h4
      rw [fail_err h4 e] at h5
      rw [(num_err h5 e).2] at h6
      rw [fail_err h6 e] at h7
      exact fail_err h7 e
  · rw [(num_err h2 e).2] at h3
    rw [(sym_err h3 e).2] at h4
    rw [fail_err h4 e] at h5
    rw [(num_err h5 e).2] at h6
    rw [fail_err h6 e] at h7
    exact fail_err h7 e
/-- One round of a row of lengths. -/
def roundG (l : List Int) (many : Nat) (acc : List Int) : G (Int × Int) := bindG (runG l acc) fun r => bindG (refG (decide ((many : Int) - acc.length < r.2)) 11) fun _ => pureG r
theorem row_round {l acc : List Int} {many f : Nat} {b : List Int} {p : Nat} (h : ¬ many ≤ acc.length) : rowG l many (f + 1) acc b p = bindG (roundG l many acc) (fun r => rowG l many f (acc ++ List.replicate r.2.toNat r.1)) b p := by
  rw [rowG, if_neg h]
  cases h1 : runG l acc b p with
  | miss => rw [bindG_miss _ h1, bindG_miss]; exact bindG_miss _ h1
  | bad e => rw [bindG_bad _ h1, bindG_bad]; exact bindG_bad _ h1
  | ok r q =>
    rw [bindG_ok _ h1]
    by_cases c : (many : Int) - acc.length < r.2
    · have h2 : refG (decide ((many : Int) - acc.length < r.2)) 11 b q = .bad 11 := by rw [decide_eq_true c]; rfl
      rw [bindG_bad _ h2, bindG_bad]
      unfold roundG
      rw [bindG_ok _ h1, bindG_bad _ h2]
    · have h2 : refG (decide ((many : Int) - acc.length < r.2)) 11 b q = .ok () q := by rw [decide_eq_false c]; rfl
      have h3 : roundG l many acc b p = .ok r q := by
        unfold roundG
        rw [bindG_ok _ h1, bindG_ok _ h2]
        rfl
      rw [bindG_ok _ h2, bindG_ok _ h3]
theorem round_plain {l acc b : List Int} {many : Nat} {d d1 d5 : DS} {x : Int} (he : d.e = 0) (hp : d.p ≤ b.length) (h1 : symD l b d = (x, d1)) (h16 : d1.e = 0 → x ≠ 16 ∧ x ≠ 17 ∧ x ≠ 18) (h5 : failD (decide ((many : Int) - acc.length < 1)) 11 d1 = d5) :
    Goes b d (roundG l many acc b d.p) (x, 1) d5 := by
  have g1 := sym_goes h1 he hp
  unfold roundG
  refine Goes.bind (d1 := d1) (x := (x, 1)) ?_ (fun c => ?_) (fun e => fail_err h5 e)
  · refine Goes.bind g1 (fun c1 => ?_) (fun _ => rfl)
    rw [if_neg (h16 c1).1, if_neg (h16 c1).2.1, if_neg (h16 c1).2.2]
    exact Goes.refl _ c1 g1.le.1
  · have g5 := fail_goes b h5 c g1.le.1 (by decide)
    exact Goes.bind g5 (fun c5 => Goes.refl _ c5 g5.le.1) (fun _ => rfl)
theorem round_16 {l acc b : List Int} {many : Nat} {d d1 d2 d3 d5 : DS} {k : Int} (he : d.e = 0) (hp : d.p ≤ b.length) (h1 : symD l b d = (16, d1)) (h2 : failD (decide (acc.length = 0)) 11 d1 = d2) (h3 : numD 2 b d2 = (k, d3)) (h5 : failD (decide ((many : Int) - acc.length < 3 + k)) 11 d3 = d5) :
    Goes b d (roundG l many acc b d.p) (acc[acc.length - 1]?.getD 0, k + 3) d5 := by
  have g1 := sym_goes h1 he hp
  rw [Int.add_comm] at h5
  unfold roundG
  have hd3 : d1.e ≠ 0 → d3 = d1 := fun e => by rw [fail_err h2 e] at h3; exact (num_err h3 e).2
  refine Goes.bind (d1 := d3) (x := (acc[acc.length - 1]?.getD 0, k + 3)) ?_ (fun c => ?_) (fun e => fail_err h5 e)
  · refine Goes.bind g1 (fun c1 => ?_) hd3
    rw [if_pos rfl]
    have g2 := fail_goes b h2 c1 g1.le.1 (by decide)
    refine Goes.bind g2 (fun c2 => ?_) (fun e => (num_err h3 e).2)
    have g3 := num_goes h3 c2 g2.le.1
    exact Goes.bind g3 (fun c3 => Goes.refl _ c3 g3.le.1) (fun _ => rfl)
  · have hle : d3.p ≤ b.length := by
      by_cases e1 : d1.e = 0
      · have g2 := fail_goes b h2 e1 g1.le.1 (by decide)
        by_cases e2 : d2.e = 0
        · exact (num_goes h3 e2 g2.le.1).le.1
        · rw [(num_err h3 e2).2]; exact g2.le.1
      · rw [hd3 e1]; exact g1.le.1
    have g5 := fail_goes b h5 c hle (by decide)
    exact Goes.bind g5 (fun c5 => Goes.refl _ c5 g5.le.1) (fun _ => rfl)
theorem round_17 {l acc b : List Int} {many : Nat} {d d1 d3 d5 : DS} {k : Int} (he : d.e = 0) (hp : d.p ≤ b.length) (h1 : symD l b d = (17, d1)) (h3 : numD 3 b d1 = (k, d3)) (h5 : failD (decide ((many : Int) - acc.length < 3 + k)) 11 d3 = d5) :
    Goes b d (roundG l many acc b d.p) (0, k + 3) d5 := by
  have g1 := sym_goes h1 he hp
  rw [Int.add_comm] at h5
  unfold roundG
  refine Goes.bind (d1 := d3) (x := ((0 : Int), k + 3)) ?_ (fun c => ?_) (fun e => fail_err h5 e)
  · refine Goes.bind g1 (fun c1 => ?_) (fun e => (num_err h3 e).2)
    rw [if_neg (by decide), if_pos rfl]
    have g3 := num_goes h3 c1 g1.le.1
    exact Goes.bind g3 (fun c3 => Goes.refl _ c3 g3.le.1) (fun _ => rfl)
  · have hle : d3.p ≤ b.length := by
      by_cases e1 : d1.e = 0
      · exact (num_goes h3 e1 g1.le.1).le.1
      · rw [(num_err h3 e1).2]; exact g1.le.1
    have g5 := fail_goes b h5 c hle (by decide)
    exact Goes.bind g5 (fun c5 => Goes.refl _ c5 g5.le.1) (fun _ => rfl)
theorem round_18 {l acc b : List Int} {many : Nat} {d d1 d3 d5 : DS} {k : Int} (he : d.e = 0) (hp : d.p ≤ b.length) (h1 : symD l b d = (18, d1)) (h3 : numD 7 b d1 = (k, d3)) (h5 : failD (decide ((many : Int) - acc.length < 11 + k)) 11 d3 = d5) :
    Goes b d (roundG l many acc b d.p) (0, k + 11) d5 := by
  have g1 := sym_goes h1 he hp
  rw [Int.add_comm] at h5
  unfold roundG
  refine Goes.bind (d1 := d3) (x := ((0 : Int), k + 11)) ?_ (fun c => ?_) (fun e => fail_err h5 e)
  · refine Goes.bind g1 (fun c1 => ?_) (fun e => (num_err h3 e).2)
    rw [if_neg (by decide), if_neg (by decide), if_pos rfl]
    have g3 := num_goes h3 c1 g1.le.1
    exact Goes.bind g3 (fun c3 => Goes.refl _ c3 g3.le.1) (fun _ => rfl)
  · have hle : d3.p ≤ b.length := by
      by_cases e1 : d1.e = 0
      · exact (num_goes h3 e1 g1.le.1).le.1
      · rw [(num_err h3 e1).2]; exact g1.le.1
    have g5 := fail_goes b h5 c hle (by decide)
    exact Goes.bind g5 (fun c5 => Goes.refl _ c5 g5.le.1) (fun _ => rfl)
/-- A dynamic block's lengths, as the document reads them. -/
theorem dyn_goes {b t l : List Int} {d d1 d2 d3 d4 d5 d6 d7 d8 : DS} {a x c : Int} (he : d.e = 0) (hp : d.p ≤ b.length)
    (h1 : numD 5 b d = (a, d1)) (h2 : numD 5 b d1 = (x, d2)) (h3 : numD 4 b d2 = (c, d3)) (h4 : failD (decide (286 < a + 257) || decide (30 < x + 1)) 11 d3 = d4)
    (h5 : d4.e = 0 → Goes b d4 (hdrG (min (c + 4).toNat 19) 0 (List.replicate 19 0) b d4.p) t d5) (k5 : d4.e ≠ 0 → d5 = d4) (h6 : failD (!mayB t) 11 d5 = d6)
    (h7 : d6.e = 0 → Goes b d6 (rowG t (a + x + 258).toNat 320 [] b d6.p) l d7) (k7 : d6.e ≠ 0 → d7 = d6) (h8 : failD (!mayB (l.take (a + 257).toNat) || !mayB (l.drop (a + 257).toNat)) 11 d7 = d8) :
    Goes b d (dynG b d.p) (l.take (a + 257).toNat, l.drop (a + 257).toNat) d8 := by
  unfold dynG
  have g1 := num_goes h1 he hp
  have end7 : d6.e ≠ 0 → d8 = d6 := fun e => by rw [k7 e] at h8; exact fail_err h8 e
  have end5 : d5.e ≠ 0 → d8 = d5 := fun e => by
    have := fail_err h6 e
    rw [this] at end7
    exact end7 e
  have end4 : d4.e ≠ 0 → d8 = d4 := fun e => by rw [k5 e] at end5; exact end5 e
  have end3 : d3.e ≠ 0 → d8 = d3 := fun e => by
    have := fail_err h4 e
    rw [this] at end4
    exact end4 e
  have end2 : d2.e ≠ 0 → d8 = d2 := fun e => by
    have := (num_err h3 e).2
    rw [this] at end3
    exact end3 e
  refine Goes.bind g1 (fun c1 => ?_) (fun e => by
    have := (num_err h2 e).2
    rw [this] at end2
    exact end2 e)
  have g2 := num_goes h2 c1 g1.le.1
  refine Goes.bind g2 (fun c2 => ?_) end2
  have g3 := num_goes h3 c2 g2.le.1
  refine Goes.bind g3 (fun c3 => ?_) end3
  have g4 := fail_goes b h4 c3 g3.le.1 (by decide)
  refine Goes.bind g4 (fun c4 => ?_) end4
  have g5 := h5 c4
  refine Goes.bind g5 (fun c5 => ?_) end5
  have g6 := fail_goes b h6 c5 g5.le.1 (by decide)
  refine Goes.bind g6 (fun c6 => ?_) end7
  have g7 := h7 c6
  refine Goes.bind g7 (fun c7 => ?_) (fun e => fail_err h8 e)
  have g8 := fail_goes b h8 c7 g7.le.1 (by decide)
  exact Goes.bind g8 (fun c8 => Goes.refl _ c8 g8.le.1) (fun _ => rfl)
end Go.Proofs.YthmkeflkhocobaaDoor.Inf

namespace Go.Proofs.YthmkeflkhocobaaDoor.Inf
open Go.RowKit Go.Proofs.YthmkeflkhocobaaDoor.Kit Go.Proofs.YthmkeflkhocobaaDoor.Bits Go.Proofs.YthmkeflkhocobaaDoor.Huf Go.Proofs.YthmkeflkhocobaaDoor.Df

theorem ends_of_err {most : Int} {b : List Int} {s : St} {p : Nat} {e : Int} (h3 : s.ph ≠ 3) (h : Err e (stepG most s b p)) : Ends most b s p e := by
  rcases h with ⟨h, rfl⟩ | h
  · exact .inr ⟨h3, .inl ⟨h, rfl⟩⟩
  · exact .inr ⟨h3, .inr h⟩
theorem step0 {most : Int} {s : St} (h : s.ph = 0) : stepG most s = openG most s := by unfold stepG; rw [if_pos h]
theorem step1 {most : Int} {s : St} (h : s.ph = 1) : stepG most s = byteG s := by unfold stepG; rw [if_neg (by omega), if_pos h]
theorem step2 {most : Int} {s : St} (h : s.ph = 2) : stepG most s = codeG most s := by unfold stepG; rw [if_neg (by omega), if_neg (by omega)]
/-- How a block ends for the document. -/
def BlockTo (most : Int) (b : List Int) (s : St) (p : Nat) (last : Bool) (d' : DS) : Prop :=
  ∃ t q, Reach most b s p t q ∧ d'.out = t.out ∧ d'.p ≤ b.length ∧ ((d'.e = 0 ∧ d'.p = q ∧ t.ph = (if last then 3 else 0)) ∨ (d'.e ≠ 0 ∧ Ends most b t q d'.e))
theorem BlockTo.more {most : Int} {b : List Int} {s t : St} {p q : Nat} {last : Bool} {d' : DS} (h : Reach most b s p t q) (g : BlockTo most b t q last d') : BlockTo most b s p last d' := by
  obtain ⟨u, r, h1, h2⟩ := g
  exact ⟨u, r, h.trans h1, h2⟩
theorem BlockTo.wrong {most : Int} {b : List Int} {s : St} {p : Nat} {last : Bool} {d' : DS} (h : Ends most b s p d'.e) (he : d'.e ≠ 0) (ho : d'.out = s.out) (hp : d'.p ≤ b.length) : BlockTo most b s p last d' := ⟨s, p, .refl, ho, hp, .inr ⟨he, h⟩⟩
theorem code_err {most : Int} {b : List Int} {s : St} {d d1 : DS} {x : Int} (h2 : s.ph = 2) (g : Goes b d (symG s.ls b d.p) x d1) (he : d1.e ≠ 0) : Ends most b s d.p d1.e := by
  refine ends_of_err (by omega) ?_
  rw [step2 h2]
  exact (g.no he).1.bind _
theorem code_lit {most : Int} {b : List Int} {s : St} {d d1 d2 : DS} {x : Int} (h2 : s.ph = 2) (g : Goes b d (symG s.ls b d.p) x d1) (c1 : d1.e = 0) (hx : x < 256) (hf : failD (decide (most ≤ s.out.length)) 12 d1 = d2) :
    (d2.e = 0 → d2 = d1 ∧ stepG most s b d.p = .ok { s with out := s.out ++ [x] } d1.p) ∧ (d2.e ≠ 0 → Ends most b s d.p d2.e) ∧ d2.p = d1.p ∧ d2.out = d1.out := by
  have e0 : decide (most ≤ (s.out.length : Int)) = decide (most < (s.out.length : Int) + 1) := decide_eq_decide.2 (by omega)
  rw [e0] at hf
  have g1 := (g.ok c1).1
  have hs : stepG most s b d.p = bindG (refG (decide (most < (s.out.length : Int) + 1)) 12) (fun _ => pureG { s with out := s.out ++ [x] }) b d1.p := by
    rw [step2 h2]
    unfold codeG
    rw [bindG_ok _ g1, if_pos hx]
  unfold failD at hf
  by_cases c : most < (s.out.length : Int) + 1
  · rw [decide_eq_true c, if_pos ⟨rfl, c1⟩] at hf
    rw [decide_eq_true c] at hs
    subst hf
    exact ⟨fun e => absurd e (by simp), fun _ => ends_of_err (by omega) (.inr (by rw [hs]; rfl)), rfl, rfl⟩
  · rw [decide_eq_false c, if_neg (fun h => by cases h.1)] at hf
    rw [decide_eq_false c] at hs
    subst hf
    exact ⟨fun _ => ⟨rfl, by rw [hs]; rfl⟩, fun e => absurd c1 e, rfl, rfl⟩
theorem code_end {most : Int} {b : List Int} {s : St} {d d1 : DS} (h2 : s.ph = 2) (g : Goes b d (symG s.ls b d.p) 256 d1) (c1 : d1.e = 0) : stepG most s b d.p = .ok s.closed d1.p := by
  rw [step2 h2]
  unfold codeG
  rw [bindG_ok _ (g.ok c1).1, if_neg (by decide), if_pos rfl]
  rfl
theorem code_match {most : Int} {b : List Int} {s : St} {d d1 d7 : DS} {x n far : Int} (h2 : s.ph = 2) (g : Goes b d (symG s.ls b d.p) x d1) (c1 : d1.e = 0) (hx : ¬ x < 256) (hx2 : x ≠ 256) (g7 : Goes b d1 (matchG (x - 257) s.ds s.out.length most b d1.p) (n, far) d7) :
    (d7.e = 0 → stepG most s b d.p = .ok { s with out := rep s.out n.toNat far.toNat } d7.p) ∧ (d7.e ≠ 0 → Ends most b s d.p d7.e) := by
  have hs : stepG most s b d.p = bindG (matchG (x - 257) s.ds s.out.length most) (fun m => pureG { s with out := rep s.out m.1.toNat m.2.toNat }) b d1.p := by
    rw [step2 h2]
    unfold codeG
    rw [bindG_ok _ (g.ok c1).1, if_neg hx, if_neg hx2]
  refine ⟨fun e => ?_, fun e => ends_of_err (by omega) ?_⟩
  · rw [hs, bindG_ok _ (g7.ok e).1]
    rfl
  · rw [hs]
    exact (g7.no e).1.bind _
/-- A byte of a stored block. -/
theorem byte_some {most : Int} {b : List Int} {s : St} {p q m : Nat} {v : Int} (h1 : s.ph = 1) (hl : s.left = m + 1) (hn : numG 8 b p = .ok v q) : stepG most s b p = .ok (if m = 0 then St.closed { s with left := 0, out := s.out ++ [v] } else { s with left := m, out := s.out ++ [v] }) q := by
  rw [step1 h1]
  unfold byteG
  rw [if_neg (by omega), bindG_ok _ hn, hl]
  by_cases c : m = 0
  · rw [if_pos (by omega), if_pos c]
    rfl
  · rw [if_neg (by omega), if_neg c]
    rfl
theorem byte_end {most : Int} {b : List Int} {s : St} {p : Nat} (h1 : s.ph = 1) (hl : s.left = 0) : stepG most s b p = .ok s.closed p := by
  rw [step1 h1]
  unfold byteG
  rw [if_pos hl]
  rfl
theorem byte_err {most : Int} {b : List Int} {s : St} {p : Nat} {e : Int} (h1 : s.ph = 1) (hl : s.left ≠ 0) (hn : Err e (numG 8 b p)) : Ends most b s p e := by
  refine ends_of_err (by omega) ?_
  rw [step1 h1]
  unfold byteG
  rw [if_neg hl]
  exact hn.bind _
/-- What a block begins with: whether it is the last one, and its kind. -/
theorem open_head {most : Int} {b : List Int} {s : St} {d d1 d2 d3 : DS} {a k : Int} (h0 : s.ph = 0) (he : d.e = 0) (hp : d.p ≤ b.length) (h1 : numD 1 b d = (a, d1)) (h2 : numD 2 b d1 = (k, d2)) (h3 : failD (decide (k = 3)) 11 d2 = d3) (hk : d2.e = 0 → 0 ≤ k ∧ k ≤ 3) :
    (d3.e ≠ 0 → Ends most b s d.p d3.e ∧ d3.out = d.out ∧ d3.p ≤ b.length) ∧ (d3.e = 0 → d3.out = d.out ∧ d3.p ≤ b.length ∧ (k = 0 ∨ k = 1 ∨ k = 2) ∧ stepG most s b d.p = (if k = 0 then bindG (headG most s.out.length) (fun n => pureG { s with ph := 1, last := decide (a = 1), left := n.toNat, ls := [], ds := [] }) b d3.p
      else if k = 1 then .ok { s with ph := 2, last := decide (a = 1), left := 0, ls := fixL, ds := fixD } d3.p
      else bindG dynG (fun l => pureG { s with ph := 2, last := decide (a = 1), left := 0, ls := l.1, ds := l.2 }) b d3.p)) := by
  have g1 := num_goes h1 he hp
  have key : d1.e = 0 → d2.e = 0 → stepG most s b d.p = (if k = 0 then bindG alignG fun _ => bindG (numG 16) fun n => bindG (numG 16) fun m => bindG (refG (decide (n + m ≠ 65535)) 11) fun _ => bindG (refG (decide (most < s.out.length + n)) 12) fun _ =>
      pureG { s with ph := 1, last := decide (a = 1), left := n.toNat, ls := [], ds := [] }
      else if k = 1 then pureG { s with ph := 2, last := decide (a = 1), left := 0, ls := fixL, ds := fixD }
      else if k = 2 then bindG dynG fun l => pureG { s with ph := 2, last := decide (a = 1), left := 0, ls := l.1, ds := l.2 }
      else bindG (refG true 11) fun _ => pureG s) b d2.p := by
    intro c1 c2
    rw [step0 h0]
    unfold openG
    rw [bindG_ok _ (g1.ok c1).1, bindG_ok _ ((num_goes h2 c1 g1.le.1).ok c2).1]
  by_cases c1 : d1.e = 0
  · have g2 := num_goes h2 c1 g1.le.1
    by_cases c2 : d2.e = 0
    · have hk := hk c2
      have key := key c1 c2
      have ho : d2.out = d.out := by rw [g2.le.2, g1.le.2]
      by_cases k3 : k = 3
      · subst k3
        have e3 : d3.e = 11 := by
          rw [← h3]
          unfold failD
          rw [if_pos ⟨by decide, c2⟩]
        have e4 : d3.out = d2.out ∧ d3.p = d2.p := by
          rw [← h3]
          unfold failD
          rw [if_pos ⟨by decide, c2⟩]
          exact ⟨rfl, rfl⟩
        rw [if_neg (by decide), if_neg (by decide), if_neg (by decide)] at key
        refine ⟨fun _ => ⟨ends_of_err (by omega) (.inr ?_), by rw [e4.1, ho], by rw [e4.2]; exact g2.le.1⟩, fun e => by omega⟩
        rw [key, e3]
        rfl
      · have e3 : d3 = d2 := by
          rw [← h3]
          unfold failD
          rw [if_neg (fun h => k3 (of_decide_eq_true h.1))]
        subst e3
        refine ⟨fun e => absurd c2 e, fun _ => ⟨ho, g2.le.1, by omega, ?_⟩⟩
        rw [key]
        by_cases k0 : k = 0
        · rw [if_pos k0, if_pos k0]
          have assoc : ∀ {α β γ : Type} (g : G α) (f : α → G β) (h : β → G γ) (p : Nat), bindG g (fun a => bindG (f a) h) b p = bindG (bindG g f) h b p := by
            intro α β γ g f h p
            cases hg : g b p with
            | miss => rw [bindG_miss _ hg, bindG_miss _ (bindG_miss _ hg)]
            | bad e => rw [bindG_bad _ hg, bindG_bad _ (bindG_bad _ hg)]
            | ok x q =>
              rw [bindG_ok _ hg]
              cases hf : f x b q with
              | miss => rw [bindG_miss _ hf, bindG_miss]; rw [bindG_ok _ hg, hf]
              | bad e => rw [bindG_bad _ hf, bindG_bad]; rw [bindG_ok _ hg, hf]
              | ok y r => rw [bindG_ok _ hf]; rw [bindG_ok (q := r) (a := y)]; rw [bindG_ok _ hg, hf]
          unfold headG
          rw [← assoc]
          simp only [alignG, bindG_ok (g := alignG) (q := (d3.p + 7) / 8 * 8) (a := ()) _ rfl]
          rw [← assoc]
          generalize (d3.p + 7) / 8 * 8 = q
          cases hn : numG 16 b q with
          | miss => rw [bindG_miss _ hn, bindG_miss _ hn]
          | bad e => rw [bindG_bad _ hn, bindG_bad _ hn]
          | ok n q2 =>
            rw [bindG_ok _ hn, bindG_ok _ hn, ← assoc]
            cases hm : numG 16 b q2 with
            | miss => rw [bindG_miss _ hm, bindG_miss _ hm]
            | bad e => rw [bindG_bad _ hm, bindG_bad _ hm]
            | ok m q3 =>
              rw [bindG_ok _ hm, bindG_ok _ hm, ← assoc]
              cases hr : refG (decide (n + m ≠ 65535)) 11 b q3 with
              | miss => rw [bindG_miss _ hr, bindG_miss _ hr]
              | bad e => rw [bindG_bad _ hr, bindG_bad _ hr]
              | ok u q4 =>
                rw [bindG_ok _ hr, bindG_ok _ hr, ← assoc]
                rfl
        · rw [if_neg k0, if_neg k0]
          by_cases k1 : k = 1
          · rw [if_pos k1, if_pos k1]
            rfl
          · rw [if_neg k1, if_neg k1, if_pos (by omega)]
    · have e3 := fail_err h3 c2
      subst e3
      refine ⟨fun e => ⟨ends_of_err (by omega) ?_, by rw [g2.le.2, g1.le.2], g2.le.1⟩, fun e => absurd e c2⟩
      rw [step0 h0]
      unfold openG
      rw [bindG_ok _ (g1.ok c1).1]
      exact (g2.no c2).1.bind _
  · have e2 := (num_err h2 c1).2
    subst e2
    have e3 := fail_err h3 c1
    subst e3
    refine ⟨fun e => ⟨ends_of_err (by omega) ?_, g1.le.2, g1.le.1⟩, fun e => absurd e c1⟩
    rw [step0 h0]
    unfold openG
    exact (g1.no c1).1.bind _
end Go.Proofs.YthmkeflkhocobaaDoor.Inf

namespace Go.Proofs.YthmkeflkhocobaaDoor.Inf
open Go.ChangeShapes Go.WideShapes Go.ChangeAt Go.RowKit Go.Proofs.YthmkeflkhocobaaDoor.Kit Go.Proofs.YthmkeflkhocobaaDoor.Bits Go.Proofs.YthmkeflkhocobaaDoor.Huf Go.Proofs.YthmkeflkhocobaaDoor.Df

theorem fixL_get : ∀ i, i < 288 → fixL.getD i 0 = if i < 144 then 8 else if i < 256 then 9 else if i < 280 then 7 else 8 := by decide +kernel
theorem fix_next (i : Nat) (h : i < 288) : (fixL.take i ++ List.replicate (288 - i) 0).set i (if i < 144 then 8 else if i < 256 then 9 else if i < 280 then 7 else 8) = fixL.take (i + 1) ++ List.replicate (288 - (i + 1)) 0 := by
  have hl := fix_ok.2.2.1
  have h1 : (fixL.take i).length = i := by rw [List.length_take]; omega
  rw [← fixL_get i h, List.set_append_right _ _ (by omega), h1, Nat.sub_self, show 288 - i = (288 - (i + 1)) + 1 by omega, List.replicate_succ, List.set_cons_zero]
  have e : fixL.take (i + 1) = fixL.take i ++ [fixL.getD i 0] := by
    rw [List.take_add_one, List.getElem?_eq_getElem (by omega), List.getD_eq_getElem?_getD, List.getElem?_eq_getElem (by omega)]
    rfl
  rw [e, List.append_assoc]
  rfl
theorem fixD_next (i : Nat) (h : i < 32) : (List.replicate i (5 : Int) ++ List.replicate (32 - i) 0).set i 5 = List.replicate (i + 1) 5 ++ List.replicate (32 - (i + 1)) 0 := by
  rw [List.set_append_right _ _ (by simp), List.length_replicate, Nat.sub_self, show 32 - i = (32 - (i + 1)) + 1 by omega, List.replicate_succ, List.set_cons_zero, List.replicate_succ', List.append_assoc]
  rfl
def FixTo (w : World) (e : Ending) (w' : World) : Prop := ∃ a b, e = .returned (.tuple #[.slice (some ⟨a, 0, none⟩) 288 288, .slice (some ⟨b, 0, none⟩) 32 32]) ∧ Own w' w.heap.size 5 .u8 (.slice (some ⟨a, 0, none⟩) 288 288) fixL ∧ Own w' w.heap.size 5 .u8 (.slice (some ⟨b, 0, none⟩) 32 32) fixD ∧ a ≠ b ∧ Below w.heap.size w w'

set_option maxRecDepth 100000 in
set_option maxHeartbeats 6400000 in
theorem fixed_any (w : World) : Calls Tryd.prog 100 #[] w (FixTo w) := by
  go_enter Tryd.func100, Tryd.ntmps100
  go_wp2_with fail
  refine wp_region_held_drew (S := (fun _ : World => True)) (by kernel_rfl) trivial (fun hS => ?_)
  refine wpAnyH_ready (rs := [0, 1]) (by kernel_rfl) (by simp) ?_
  refine AllReadyH.cons rfl (fun K hK => ?_) (AllReadyH.cons rfl (fun K hK => ?_) AllReadyH.nil)
  case' refine_1 =>
    refine step_of_list (by simp [Region.wanted]) fun Q9 hn9 => ?_
    refine wpList_make_ints _ rfl _ _ _ rfl elem8 288 288 rfl rfl rfl rfl (Nat.le_refl _) (by omega) ?_
    intro w1 o1 b1 l1
    refine hn9 _ _ ?_
    clear hn9 Q9
    change K (Act.put _ (some 6) _) _
    refine hK.out _ _ trivial (fun hS => ?_)
    clear hK K
    try simp only [Act.put, List.setIfInBounds_toArray, List.set_cons_zero, List.set_cons_succ]
    refine wpAnyH_take (i := 2) (oi := ⟨some 2, _, _, _, _, _⟩) (v := .slice (some ⟨w.heap.size, 0, none⟩) 288 288) rfl (by kernel_rfl) (by kernel_rfl) (by kernel_rfl) (fun _ _ _ h => h) (Or.inl ⟨by rfl, fun W hW => by go_simp⟩) hS ?_
    try simp only [Act.put, List.setIfInBounds_toArray, List.set_cons_zero, List.set_cons_succ]
    refine wpAnyH_ready (rs := [1]) (by kernel_rfl) (by simp) ?_
    refine AllReadyH.cons rfl (fun K hK => ?_) AllReadyH.nil
    refine step_of_list (by simp [Region.wanted]) fun Q9 hn9 => ?_
    refine wpList_make_ints _ rfl _ _ _ rfl elem8 32 32 rfl rfl rfl rfl (Nat.le_refl _) (by omega) ?_
    intro w2 o2 b2 l2
    refine hn9 _ _ ?_
    clear hn9 Q9
    change K (Act.put _ (some 7) _) _
    refine hK.out _ _ trivial (fun hS => ?_)
    clear hK K
    try simp only [Act.put, List.setIfInBounds_toArray, List.set_cons_zero, List.set_cons_succ]
    refine wpAnyH_take (i := 3) (oi := ⟨some 3, _, _, _, _, _⟩) (v := .slice (some ⟨w1.heap.size, 0, none⟩) 32 32) rfl (by kernel_rfl) (by kernel_rfl) (by kernel_rfl) (fun _ _ _ h => h) (Or.inl ⟨by rfl, fun W hW => by go_simp⟩) hS ?_
    try simp only [Act.put, List.setIfInBounds_toArray, List.set_cons_zero, List.set_cons_succ]
    refine wpAnyH_done (by kernel_rfl) ?_ _
    have hs1 : w.heap.size < w1.heap.size := l1
    have hs2 : w1.heap.size < w2.heap.size := l2
    have bw1 : Below w.heap.size w w1 := ⟨b1.os, b1.tape, b1.output, b1.size, b1.block⟩
    have o1' := (show Own w1 w.heap.size 5 .u8 (.slice (some ⟨w.heap.size, 0, none⟩) 288 288) (List.replicate 288 0) from o1).below b2
    have o2' := o2.mono (Nat.le_of_lt hs1)
    have bw2 := bw1.trans (b2.mono (Nat.le_of_lt hs1))
    obtain ⟨ga, hga⟩ : ∃ ga, w.heap.size = ga := ⟨_, rfl⟩
    obtain ⟨gb, hgb⟩ : ∃ gb, w1.heap.size = gb := ⟨_, rfl⟩
    have hne : ga ≠ gb := by omega
    have hza : ga < w2.heap.size := by omega
    have hzb : gb < w2.heap.size := by omega
    rw [hgb] at o2'
    rw [show Value.slice (some ⟨w.heap.size, 0, none⟩) 288 288 = Value.slice (some ⟨ga, 0, none⟩) 288 288 by rw [hga]] at o1'
    rw [show Value.slice (some ⟨w.heap.size, 0, none⟩) 288 288 = Value.slice (some ⟨ga, 0, none⟩) 288 288 by rw [hga], hgb]
    have OA := Lib.hid o1'
    have OB := Lib.hid o2'
    have BW := Lib.hid bw2
    clear hga hgb o1 o2 o1' o2' b1 b2 bw1 bw2 l1 l2
  case' refine_2 =>
    refine step_of_list (by simp [Region.wanted]) fun Q9 hn9 => ?_
    refine wpList_make_ints _ rfl _ _ _ rfl elem8 32 32 rfl rfl rfl rfl (Nat.le_refl _) (by omega) ?_
    intro w1 o1 b1 l1
    refine hn9 _ _ ?_
    clear hn9 Q9
    change K (Act.put _ (some 7) _) _
    refine hK.out _ _ trivial (fun hS => ?_)
    clear hK K
    try simp only [Act.put, List.setIfInBounds_toArray, List.set_cons_zero, List.set_cons_succ]
    refine wpAnyH_ready (rs := [0]) (by kernel_rfl) (by simp) ?_
    refine AllReadyH.cons rfl (fun K hK => ?_) AllReadyH.nil
    refine step_of_list (by simp [Region.wanted]) fun Q9 hn9 => ?_
    refine wpList_make_ints _ rfl _ _ _ rfl elem8 288 288 rfl rfl rfl rfl (Nat.le_refl _) (by omega) ?_
    intro w2 o2 b2 l2
    refine hn9 _ _ ?_
    clear hn9 Q9
    change K (Act.put _ (some 6) _) _
    refine hK.out _ _ trivial (fun hS => ?_)
    clear hK K
    try simp only [Act.put, List.setIfInBounds_toArray, List.set_cons_zero, List.set_cons_succ]
    refine wpAnyH_take (i := 2) (oi := ⟨some 2, _, _, _, _, _⟩) (v := .slice (some ⟨w1.heap.size, 0, none⟩) 288 288) rfl (by kernel_rfl) (by kernel_rfl) (by kernel_rfl) (fun _ _ _ h => h) (Or.inl ⟨by rfl, fun W hW => by go_simp⟩) hS ?_
    try simp only [Act.put, List.setIfInBounds_toArray, List.set_cons_zero, List.set_cons_succ]
    refine wpAnyH_take (i := 3) (oi := ⟨some 3, _, _, _, _, _⟩) (v := .slice (some ⟨w.heap.size, 0, none⟩) 32 32) rfl (by kernel_rfl) (by kernel_rfl) (by kernel_rfl) (fun _ _ _ h => h) (Or.inl ⟨by rfl, fun W hW => by go_simp⟩) hS ?_
    try simp only [Act.put, List.setIfInBounds_toArray, List.set_cons_zero, List.set_cons_succ]
    refine wpAnyH_done (by kernel_rfl) ?_ _
    have hs1 : w.heap.size < w1.heap.size := l1
    have hs2 : w1.heap.size < w2.heap.size := l2
    have bw1 : Below w.heap.size w w1 := ⟨b1.os, b1.tape, b1.output, b1.size, b1.block⟩
    have o1' := (show Own w1 w.heap.size 5 .u8 (.slice (some ⟨w.heap.size, 0, none⟩) 32 32) (List.replicate 32 0) from o1).below b2
    have o2' := o2.mono (Nat.le_of_lt hs1)
    have bw2 := bw1.trans (b2.mono (Nat.le_of_lt hs1))
    obtain ⟨ga, hga⟩ : ∃ ga, w1.heap.size = ga := ⟨_, rfl⟩
    obtain ⟨gb, hgb⟩ : ∃ gb, w.heap.size = gb := ⟨_, rfl⟩
    have hne : ga ≠ gb := by omega
    have hza : ga < w2.heap.size := by omega
    have hzb : gb < w2.heap.size := by omega
    rw [hga] at o2'
    rw [show Value.slice (some ⟨w.heap.size, 0, none⟩) 32 32 = Value.slice (some ⟨gb, 0, none⟩) 32 32 by rw [hgb]] at o1'
    rw [show Value.slice (some ⟨w.heap.size, 0, none⟩) 32 32 = Value.slice (some ⟨gb, 0, none⟩) 32 32 by rw [hgb], hga]
    have OA := Lib.hid o2'
    have OB := Lib.hid o1'
    have BW := Lib.hid bw2
    clear hga hgb o1 o2 o1' o2' b1 b2 bw1 bw2 l1 l2
  all_goals
    go_wp2_with fail
    go_loopw [10] (fun s wr => ∃ i : Nat, i ≤ 288 ∧ s = .int .i64 i ∧ Own wr w.heap.size 5 .u8 (.slice (some ⟨ga, 0, none⟩) 288 288) (fixL.take i ++ List.replicate (288 - i) 0) ∧ TurnsIn (fun b => b = ga) w2 wr) (fun s _ => 288 - (intOf s).toNat)
    case atStart => exact ⟨0, by omega, rfl, OA.out, TurnsIn.refl _ _⟩
    case round =>
      obtain ⟨i, hi, rfl, own, tw⟩ := hrel
      have hlen : (fixL.take i ++ List.replicate (288 - i) (0 : Int)).length = 288 := by rw [List.length_append, List.length_take, List.length_replicate, fix_ok.2.2.1]; omega
      by_cases hlt : i < 288
      · have hfr := own.frozenAt hlen.symm i
        have hcl := own.cellAt hlen.symm (i := i) (by omega)
        generalize (fixL.take i ++ List.replicate (288 - i) (0 : Int))[i]?.getD 0 = old at hcl
        have hnx := fix_next i hlt
        have q0 : (i : Int) < 288 := by omega
        have q1 : (0 : Int) ≤ (i : Int) := by omega
        have HNX := Lib.hid hnx
        have HLEN := Lib.hid hlen
        have HO := Lib.hid own
        have HT := Lib.hid tw
        clear hnx hlen own tw
        by_cases c1 : i < 144
        case' pos =>
          have d1 : decide ((i : Int) < 144) = true := decide_eq_true (by omega)
          obtain ⟨V, hV⟩ : ∃ V : Int, V = 8 := ⟨8, rfl⟩
          have HV := Lib.hid (show V = if i < 144 then 8 else if i < 256 then 9 else if i < 280 then 7 else 8 by rw [hV, if_pos c1])
          have HV8 := Lib.hid hV
          clear c1 hV
          go_wp2_with fail
          rw [← HV8.out]
        case' neg =>
          have d1 : decide ((i : Int) < 144) = false := decide_eq_false (by omega)
          by_cases c2 : i < 256
          case' pos =>
            have d2 : decide ((i : Int) < 256) = true := decide_eq_true (by omega)
            obtain ⟨V, hV⟩ : ∃ V : Int, V = 9 := ⟨9, rfl⟩
            have HV := Lib.hid (show V = if i < 144 then 8 else if i < 256 then 9 else if i < 280 then 7 else 8 by rw [hV, if_neg c1, if_pos c2])
            have HV8 := Lib.hid hV
            clear c1 c2 hV
            go_wp2_with fail
            rw [← HV8.out]
          case' neg =>
            have d2 : decide ((i : Int) < 256) = false := decide_eq_false (by omega)
            by_cases c3 : i < 280
            case' pos =>
              have d3 : decide ((i : Int) < 280) = true := decide_eq_true (by omega)
              obtain ⟨V, hV⟩ : ∃ V : Int, V = 7 := ⟨7, rfl⟩
              have HV := Lib.hid (show V = if i < 144 then 8 else if i < 256 then 9 else if i < 280 then 7 else 8 by rw [hV, if_neg c1, if_neg c2, if_pos c3])
              have HV8 := Lib.hid hV
              clear c1 c2 c3 hV
              go_wp2_with fail
              rw [← HV8.out]
            case' neg =>
              have d3 : decide ((i : Int) < 280) = false := decide_eq_false (by omega)
              obtain ⟨V, hV⟩ : ∃ V : Int, V = 8 := ⟨8, rfl⟩
              have HV := Lib.hid (show V = if i < 144 then 8 else if i < 256 then 9 else if i < 280 then 7 else 8 by rw [hV, if_neg c1, if_neg c2, if_neg c3])
              have HV8 := Lib.hid hV
              clear c1 c2 c3 hV
              go_wp2_with fail
              rw [← HV8.out]
        all_goals
          go_roundw
          case rel =>
            have os := HO.out.stored HLEN.out.symm i V
            have hv := HV.out
            rw [show (fixL.take i ++ List.replicate (288 - i) (0 : Int)).set i V = fixL.take (i + 1) ++ List.replicate (288 - (i + 1)) 0 by rw [hv]; exact HNX.out] at os
            exact ⟨i + 1, by omega, by go_num, os.1, HT.out.trans (.ofGrown os.2 fun b hb => (Option.some.inj hb).symm)⟩
          case measure => simp [intOf]; omega
      · obtain rfl : i = 288 := by omega
        have hfin : fixL.take 288 ++ List.replicate (288 - 288) (0 : Int) = fixL := by rw [List.take_of_length_le (by rw [fix_ok.2.2.1]; omega)]; simp
        rw [hfin] at own
        have ob1 := OB.out.out tw (fun b hb he => hne (by rw [← he]; exact (Option.some.inj hb).symm))
        have O1 := Lib.hid own
        have T1 := Lib.hid tw
        have OB1 := Lib.hid ob1
        clear own tw ob1 hfin hlen
        go_wp2_with fail
        go_loopw [37] (fun s wq => ∃ i : Nat, i ≤ 32 ∧ s = .int .i64 i ∧ Own wq w.heap.size 5 .u8 (.slice (some ⟨gb, 0, none⟩) 32 32) (List.replicate i 5 ++ List.replicate (32 - i) 0) ∧ TurnsIn (fun b => b = gb) wr wq) (fun s _ => 32 - (intOf s).toNat)
        case atStart => exact ⟨0, by omega, rfl, OB1.out, TurnsIn.refl _ _⟩
        case round =>
          obtain ⟨i, hi, rfl, own, tw⟩ := hrel
          have hlen : (List.replicate i (5 : Int) ++ List.replicate (32 - i) (0 : Int)).length = 32 := by simp; omega
          by_cases hlt : i < 32
          · have hfr := own.frozenAt hlen.symm i
            have hcl := own.cellAt hlen.symm (i := i) (by omega)
            generalize (List.replicate i (5 : Int) ++ List.replicate (32 - i) (0 : Int))[i]?.getD 0 = old at hcl
            have hnx := fixD_next i hlt
            have q0 : (i : Int) < 32 := by omega
            have q1 : (0 : Int) ≤ (i : Int) := by omega
            have HNX := Lib.hid hnx
            have HLEN := Lib.hid hlen
            have HO := Lib.hid own
            have HT := Lib.hid tw
            clear hnx hlen own tw
            go_wp2_with fail
            go_roundw
            case rel =>
              have os := HO.out.stored HLEN.out.symm i 5
              rw [HNX.out] at os
              exact ⟨i + 1, by omega, by go_num, os.1, HT.out.trans (.ofGrown os.2 fun b hb => (Option.some.inj hb).symm)⟩
            case measure => simp [intOf]; omega
          · obtain rfl : i = 32 := by omega
            have hfin : List.replicate 32 (5 : Int) ++ List.replicate (32 - 32) (0 : Int) = fixD := by simp [fixD]
            rw [hfin] at own
            have o1 := O1.out.out tw (fun b hb he => hne (by rw [← he]; exact Option.some.inj hb))
            have hB := BW.out.trans ((T1.out).toBelow (B := w.heap.size) BW.out.size (fun b hb he => by have := (OA.out.lt b (by rw [he]; rfl)).1; omega))
            have hB2 := hB.trans (tw.toBelow (B := w.heap.size) hB.size (fun b hb he => by have := (OB.out.lt b (by rw [he]; rfl)).1; omega))
            have O2 := Lib.hid own
            have O3 := Lib.hid o1
            have HB := Lib.hid hB2
            clear own o1 hB hB2 hfin hlen tw
            go_wp2_with fail
            go_ret2
            exact ⟨ga, gb, rfl, O3.out, O2.out, hne, HB.out⟩
end Go.Proofs.YthmkeflkhocobaaDoor.Inf

namespace Go.Proofs.YthmkeflkhocobaaDoor.Inf
open Go.ChangeShapes Go.WideShapes Go.ChangeAt Go.RowKit Go.Proofs.YthmkeflkhocobaaDoor.Kit Go.Proofs.YthmkeflkhocobaaDoor.Bits Go.Proofs.YthmkeflkhocobaaDoor.Huf Go.Proofs.YthmkeflkhocobaaDoor.Df

def lenV : Value → Nat
  | .slice _ n _ => n
  | _ => 0
def RowTo (B g : Nat) (v : Value) (bs : List Int) (r : Res (List Int)) (w : World) (e : Ending) (w' : World) : Prop :=
  TurnsIn (· = g) w w' ∧ match r with
  | .miss => e = missingE ∧ ∃ q, Rd w' B g v bs q
  | .bad why => e = brokenE why ∧ ∃ q, Rd w' B g v bs q
  | .ok ys q => Rd w' B g v bs q ∧ ∃ A c, e = .returned (.slice A ys.length c) ∧ Own w' w.heap.size 5 .u8 (.slice A ys.length c) ys
theorem rd_far {N : Nat} {w w' : World} {B g : Nat} {v : Value} {bs : List Int} {p : Nat} (h : Rd w B g v bs p) (t : TurnsIn (fun b => N ≤ b) w w') (hg : g < N) (hv : ∀ b, v.ownBlock = some b → b < N) : Rd w' B g v bs p :=
  h.out t (by omega) (fun b hb he => by have := hv b hb; omega)
theorem RowTo.miss {B g : Nat} {v : Value} {bs : List Int} {r : Res (List Int)} {w w' : World} {q : Nat} (h : r = .miss) (t : TurnsIn (· = g) w w') (R : Rd w' B g v bs q) : RowTo B g v bs r w missingE w' := by
  subst h
  exact ⟨t, rfl, q, R⟩
theorem RowTo.bad {B g : Nat} {v : Value} {bs : List Int} {r : Res (List Int)} {w w' : World} {q : Nat} {why : Int} (h : r = .bad why) (t : TurnsIn (· = g) w w') (R : Rd w' B g v bs q) : RowTo B g v bs r w (brokenE why) w' := by
  subst h
  exact ⟨t, rfl, q, R⟩
theorem row_done {l acc b : List Int} {many f p : Nat} (h : many ≤ acc.length) : rowG l many f acc b p = .ok acc p := by
  cases f with
  | zero => rfl
  | succ f => rw [rowG, if_pos h]; rfl
/-- A round, behind its run. -/
theorem row_run {l acc b : List Int} {many f p q : Nat} {X : Int} {N : Nat} (h : ¬ many ≤ acc.length) (hr : runG l acc b p = .ok (X, (N : Int)) q) : rowG l many (f + 1) acc b p = if many < acc.length + N then .bad 11 else rowG l many f (acc ++ List.replicate N X) b q := by
  rw [rowG, if_neg h, bindG_ok _ hr]
  by_cases c : many < acc.length + N
  · rw [if_pos c]
    simp only
    rw [decide_eq_true (by omega : (many : Int) - acc.length < (N : Int))]
    rfl
  · rw [if_neg c]
    simp only
    rw [decide_eq_false (by omega : ¬ (many : Int) - acc.length < (N : Int)), bindG_ok _ (refG_no 11 b q), Int.toNat_natCast]
theorem row_err {l acc b : List Int} {many f p : Nat} (h : ¬ many ≤ acc.length) : (runG l acc b p = .miss → rowG l many (f + 1) acc b p = .miss) ∧ (∀ e, runG l acc b p = .bad e → rowG l many (f + 1) acc b p = .bad e) := by
  rw [rowG, if_neg h]
  exact ⟨fun h => bindG_miss _ h, fun e h => bindG_bad _ h⟩
theorem symG_sym {l b : List Int} {p n : Nat} {s : Int} (h : told l (b.drop p) = .sym s n) : symG l b p = .ok s (p + n) := by rw [symG_eq, h]
theorem numG_yes {b : List Int} {p n : Nat} (h : p + n ≤ b.length) : numG n b p = .ok (val ((b.drop p).take n)) (p + n) := by unfold numG; rw [if_pos h]
theorem numG_no {b : List Int} {p n : Nat} (h : ¬ p + n ≤ b.length) : numG n b p = .miss := by unfold numG; rw [if_neg h]

theorem number_yes {B g gp : Nat} {v u1 u2 : Value} {bs : List Int} {p : Nat} (n : Nat) (w : World) (hp : Block w gp 136 #[.pointer (some ⟨g, 0, none⟩), u1, u2]) (R : Rd w B g v bs p) (ho : Octets bs) (hl : bs.length ≤ 1000000) (hn : n ≤ 16) (h : p + n ≤ (bitsOf bs).length) :
    Calls Tryd.prog 98 #[.pointer (some ⟨gp, 0, none⟩), .int .i64 (n : Int)] w fun e w' => TurnsIn (· = g) w w' ∧ e = .returned (.int .i64 (val (((bitsOf bs).drop p).take n))) ∧ Rd w' B g v bs (p + n) := by
  refine (number_any B g gp v u1 u2 bs p n w hp R ho hl hn).mono ?_
  rintro e w' ⟨t, h2⟩
  rw [if_pos (by rw [← bitsOf_length]; exact h)] at h2
  exact ⟨t, h2⟩
theorem number_no {B g gp : Nat} {v u1 u2 : Value} {bs : List Int} {p : Nat} (n : Nat) (w : World) (hp : Block w gp 136 #[.pointer (some ⟨g, 0, none⟩), u1, u2]) (R : Rd w B g v bs p) (ho : Octets bs) (hl : bs.length ≤ 1000000) (hn : n ≤ 16) (h : ¬ p + n ≤ (bitsOf bs).length) :
    Calls Tryd.prog 98 #[.pointer (some ⟨gp, 0, none⟩), .int .i64 (n : Int)] w fun e w' => TurnsIn (· = g) w w' ∧ e = .panicked [{ v := .iface 130 (.agg #[]), recovered := false }] ∧ Rd w' B g v bs p := by
  refine (number_any B g gp v u1 u2 bs p n w hp R ho hl hn).mono ?_
  rintro e w' ⟨t, h2⟩
  rw [if_neg (by rw [← bitsOf_length]; exact h)] at h2
  exact ⟨t, h2⟩
set_option maxRecDepth 100000 in
set_option maxHeartbeats 12800000 in
theorem row_any (B g gp gt B' : Nat) (v u1 u2 vt : Value) (bs l : List Int) (p many : Nat) (w : World) (hp : Block w gp 136 #[.pointer (some ⟨g, 0, none⟩), u1, u2]) (R : Rd w B g v bs p) (hob : Octets bs) (hbl : bs.length ≤ 1000000) (hM : mayB l = true) (ho : Octets l) (hl : l.length ≤ 19) (tb : Tb w B' gt vt l 15 (syms l 15)) (hmany : many ≤ 320) :
    Calls Tryd.prog 122 #[.pointer (some ⟨gp, 0, none⟩), .pointer (some ⟨gt, 0, none⟩), .int .i64 (many : Int)] w (RowTo B g v bs (rowG l many 320 [] (bitsOf bs) p) w) := by
  have hgN := R.blk.lt
  have hvN : ∀ b, v.ownBlock = some b → b < w.heap.size := fun b hb => (R.own.lt b hb).2
  have hgp : gp ≠ g := Block.ne_of hp R.blk (by decide)
  have hgt : gt ≠ g := Block.ne_of tb.blk R.blk (by decide)
  have hvt : ∀ b, vt.ownBlock = some b → ¬ b = g := fun b hb he => tb.own.ne_block R.blk (by decide) (by rw [hb, he])
  have HP := Lib.hid hp
  have HT := Lib.hid tb
  have HVN := Lib.hid hvN
  have HVT := Lib.hid hvt
  have HM := Lib.hid hM
  have HO := Lib.hid ho
  obtain ⟨r, hr⟩ : ∃ r, rowG l many 320 [] (bitsOf bs) p = r := ⟨_, rfl⟩
  rw [hr]
  have HR := Lib.hid hr
  clear hr hp tb hvN hvt hM ho
  go_enter Tryd.func122, Tryd.ntmps122
  go_wp2_with fail
  go_loopw [7] (fun x7 wr => ∃ (acc : List Int) (A : Option Addr) (c q f : Nat), x7 = .slice A acc.length c ∧ Own wr w.heap.size 5 .u8 (.slice A acc.length c) acc ∧ Octets acc ∧ acc.length ≤ many ∧ many ≤ acc.length + f ∧ Rd wr B g v bs q ∧ TurnsIn (· = g) w wr ∧ Hid (rowG l many f acc (bitsOf bs) q = r)) (fun x7 _ => many - lenV x7)
  case atStart => exact ⟨[], none, 0, p, 320, rfl, Own.nil _ _ _ _, (fun _ h => absurd h (by simp)), Nat.zero_le _, by simp; omega, R, TurnsIn.refl _ _, HR⟩
  case round =>
    obtain ⟨acc, A, c, q, f, rfl, own, hoa, hle, hf, R2, t2, hG⟩ := hrel
    obtain ⟨n, hn⟩ : ∃ n, acc.length = n := ⟨_, rfl⟩
    have HN := Lib.hid hn
    rw [hn] at hle hf own
    have OW := Lib.hid own
    have HOA := Lib.hid hoa
    have R2h := Lib.hid R2
    have T2 := Lib.hid t2
    have hsz := t2.size
    rw [hn]
    clear own hoa t2 hn R
    by_cases hlt : n < many
    · obtain ⟨f, rfl⟩ : ∃ k, f = k + 1 := ⟨f - 1, by omega⟩
      have HNM := Lib.hid (show ¬ many ≤ acc.length by rw [HN.out]; omega)
      have dlt : decide ((n : Int) < (many : Int)) = true := decide_eq_true (by omega)
      have dlt2 : decide (n < many) = true := decide_eq_true hlt
      have hp2 := HP.out.out T2.out hgp
      have tb2 := HT.out.out T2.out hgt HVT.out
      have G := Lib.hid (symbol_any B g gp gt B' v u1 u2 vt bs l q wr hp2 (by omega) HM.out HO.out R2 hob hbl tb2)
      unfold SymLeaves at G
      obtain ⟨t, ht⟩ : ∃ t, told l ((bitsOf bs).drop q) = t := ⟨_, rfl⟩
      rw [ht] at G
      have HTD := Lib.hid ht
      have HP2 := Lib.hid hp2
      clear ht hp2 tb2 hlt R2
      cases t with
      | short =>
        have HE := Lib.hid (hG.out.symm.trans ((row_err HNM.out).1 (by unfold runG; exact bindG_miss _ (by rw [symG_eq, HTD.out]))))
        unfold missingE at G
        go_wp2_with fail
        refine G.out.mono ?_
        rintro e w3 ⟨t3, rfl, R3⟩
        go_wp2_with fail
        exact ⟨rfl, RowTo.miss HE.out (T2.out.trans t3) R3⟩
      | form =>
        have HE := Lib.hid (hG.out.symm.trans ((row_err HNM.out).2 11 (by unfold runG; exact bindG_bad _ (by rw [symG_eq, HTD.out]))))
        unfold brokenE at G
        go_wp2_with fail
        refine G.out.mono ?_
        rintro e w3 ⟨t3, rfl, R3⟩
        go_wp2_with fail
        exact ⟨rfl, RowTo.bad HE.out (T2.out.trans t3) R3⟩
      | sym s k =>
        have hlen := told_le HTD.out
        have hsr := told_lt HM.out HO.out ((bitsOf_bit bs).drop q) HTD.out
        have GN := Lib.hid (fun W => refuse_no 11 W)
        have GY := Lib.hid (fun W => refuse_yes 11 W)
        have HS := Lib.hid (symG_sym HTD.out)
        clear HTD
        go_wp2_with fail
        refine G.out.mono ?_
        rintro e w3 ⟨t3, rfl, R3⟩
        have hp3 := HP2.out.out t3 hgp
        have own3 := OW.out.out t3 (fun b hb he => OW.out.ne_block R2h.out.blk (by decide) (by rw [hb, he]))
        have T3 := Lib.hid (T2.out.trans t3)
        have R3h := Lib.hid R3
        have hsz3 := t3.size
        have OW3 := Lib.hid own3
        have HP3 := Lib.hid hp3
        clear t3 own3 hp3 G
        by_cases c16 : s = 16
        · obtain rfl : s = 16 := c16
          by_cases h0 : n = 0
          · have HE := Lib.hid (hG.out.symm.trans ((row_err HNM.out).2 11 (by unfold runG; rw [bindG_ok _ HS.out, if_pos rfl, decide_eq_true (by rw [HN.out]; exact h0)]; rfl)))
            have d0 : ((n : Int) == 0) = true := by rw [beq_iff_eq]; omega
            clear h0
            unfold brokenE at GY
            go_wp2_with fail
            refine (GY.out _).mono ?_
            rintro e w5 ⟨rfl, rfl⟩
            go_wp2_with fail
            exact ⟨rfl, RowTo.bad HE.out T3.out R3h.out⟩
          · have d0 : ((n : Int) == 0) = false := by rw [beq_eq_false_iff_ne]; omega
            obtain ⟨ga, ca, eA, hga1, hga2, _, _⟩ := OW3.out.form (by rw [HN.out]; omega)
            injection eA with eA1 eA2 eA3
            subst eA1
            clear eA2 eA3
            obtain ⟨j, hj⟩ : ∃ j, n - 1 = j := ⟨_, rfl⟩
            have y0 : w3.cell? ⟨ga, j, none⟩ = some (.int .u8 (acc[j]?.getD 0)) := OW3.out.cellAt HN.out.symm (by rw [HN.out]; omega)
            have hXb := HOA.out.at_ j
            have HRX : Hid (acc[acc.length - 1]?.getD 0 = acc[j]?.getD 0) := Lib.hid (by rw [HN.out, hj])
            generalize acc[j]?.getD 0 = X at *
            have hjw : IntKind.i64.wrap ((n : Int) - 1) = (j : Int) := by rw [IntKind.wrap_i64]; omega
            have hj0 : (0 : Int) ≤ (j : Int) := by omega
            have hjn : (j : Int) < (n : Int) := by omega
            have Y0 := Lib.hid y0
            have hgag : ga ≠ g := fun he => OW3.out.ne_block R3h.out.blk (by decide) (by rw [he]; rfl)
            by_cases hq : q + k + 2 ≤ (bitsOf bs).length
            · have GM := Lib.hid (number_yes 2 w3.drew (HP3.out.drewN 1) ⟨R3h.out.blk.drewN 1, R3h.out.own.drewN 1, R3h.out.le⟩ hob hbl (by omega) hq)
              have hvb := val_bd (((bitsOf_bit bs).drop (q + k)).take 2)
              rw [List.length_take, List.length_drop, Nat.min_eq_left (by omega)] at hvb
              obtain ⟨N, hN⟩ : ∃ N : Nat, val (((bitsOf bs).drop (q + k)).take 2) + 3 = (N : Int) := ⟨(val (((bitsOf bs).drop (q + k)).take 2) + 3).toNat, by omega⟩
              have HRUN : Hid (runG l acc (bitsOf bs) q = .ok (X, (N : Int)) (q + k + 2)) := Lib.hid (by unfold runG; rw [bindG_ok _ HS.out, if_pos rfl, decide_eq_false (by rw [HN.out]; exact h0), bindG_ok _ (refG_no 11 _ _), bindG_ok _ (numG_yes hq), hN, HRX.out]; rfl)
              generalize val (((bitsOf bs).drop (q + k)).take 2) = y at *
              have hyw : IntKind.i64.wrap (y + 3) = (N : Int) := by rw [IntKind.wrap_i64]; omega
              have hNb2 : N ≤ 200 := by omega
              have hN1b : 1 ≤ N := by omega
              have HJ := Lib.hid hj
              have H0 := Lib.hid h0
              clear hq hvb hN HS hj h0 y0
              go_wp2_with fail
              refine (GN.out _).mono ?_
              rintro e w5 ⟨rfl, hw5⟩
              have hw5' := hw5.symm
              clear hw5
              subst hw5'
              go_wp2_with fail
              refine wp_region_held_drew (S := (fun W' : World => W'.cell? ⟨ga, j, none⟩ = some (.int .u8 X))) (by kernel_rfl) Y0.out (fun hS => ?_)
              refine wpAnyH_take (i := 0) (oi := ⟨some 27, _, _, _, _, _⟩) (v := .slice (some ⟨ga, 0, none⟩) n c) rfl (by kernel_rfl) (by kernel_rfl) (by kernel_rfl) (fun _ _ _ h => h) (Or.inl ⟨by rfl, fun W hW => by go_simp⟩) hS ?_
              try simp only [Act.put, List.setIfInBounds_toArray, List.set_cons_zero, List.set_cons_succ]
              refine wpAnyH_take (i := 1) (oi := ⟨some 28, _, _, _, _, _⟩) (v := .slice (some ⟨ga, 0, none⟩) n c) rfl (by kernel_rfl) (by kernel_rfl) (by kernel_rfl) (fun _ _ _ h => h) (Or.inl ⟨by rfl, fun W hW => by go_simp⟩) hS ?_
              try simp only [Act.put, List.setIfInBounds_toArray, List.set_cons_zero, List.set_cons_succ]
              refine wpAnyH_take (i := 6) (oi := ⟨some 33, _, _, _, _, _⟩) (v := .pointer (some ⟨gp, 0, none⟩)) rfl (by kernel_rfl) (by kernel_rfl) (by kernel_rfl) (fun _ _ _ h => h) (Or.inl ⟨by rfl, fun W hW => by go_simp⟩) hS ?_
              try simp only [Act.put, List.setIfInBounds_toArray, List.set_cons_zero, List.set_cons_succ]
              refine wpAnyH_take (i := 2) (oi := ⟨some 29, _, _, _, _, _⟩) (v := .int .i64 (n : Int)) rfl (by kernel_rfl) (by kernel_rfl) (by kernel_rfl) (fun _ _ _ h => h) (Or.inl ⟨by rfl, fun W hW => by go_simp⟩) hS ?_
              try simp only [Act.put, List.setIfInBounds_toArray, List.set_cons_zero, List.set_cons_succ]
              refine wpAnyH_take (i := 3) (oi := ⟨some 30, _, _, _, _, _⟩) (v := .int .i64 (j : Int)) rfl (by kernel_rfl) (by kernel_rfl) (by kernel_rfl) (fun _ _ _ h => h) (Or.inl ⟨by rfl, fun W hW => by go_simp⟩) hS ?_
              try simp only [Act.put, List.setIfInBounds_toArray, List.set_cons_zero, List.set_cons_succ]
              refine wpAnyH_take (i := 4) (oi := ⟨some 31, _, _, _, _, _⟩) (v := .pointer (some ⟨ga, j, none⟩)) rfl (by kernel_rfl) (by kernel_rfl) (by kernel_rfl) (fun _ _ _ h => h) (Or.inl ⟨by rfl, fun W hW => by go_simp⟩) hS ?_
              try simp only [Act.put, List.setIfInBounds_toArray, List.set_cons_zero, List.set_cons_succ]
              refine wpAnyH_take (i := 5) (oi := ⟨some 32, _, _, _, _, _⟩) (v := .int .u8 X) rfl (by kernel_rfl) (by kernel_rfl) (by kernel_rfl) (fun _ _ _ h => h) (Or.inl ⟨by rfl, fun W hW => by have k1 : W.cell? ⟨ga, j, none⟩ = some (.int .u8 X) := hW; go_simp⟩) hS ?_
              try simp only [Act.put, List.setIfInBounds_toArray, List.set_cons_zero, List.set_cons_succ]
              refine wpAnyH_ready (rs := [7]) (by kernel_rfl) (by simp) ?_
              refine AllReadyH.cons rfl (fun K hK => ?_) AllReadyH.nil
              go_simp
              go_at_call 98
              refine GM.out.mono ?_
              rintro e w4 ⟨t4d, rfl, R4⟩
              have t4 : TurnsIn (· = g) w3 w4 := ⟨t4d.os, t4d.tape, t4d.output, t4d.size, t4d.block⟩
              have k4 : w4.cell? ⟨ga, j, none⟩ = some (.int .u8 X) := (World.cell?_of_block (w := w3) (a := ⟨ga, j, none⟩) (t4.block ga hga2 hgag)).trans Y0.out
              have T4 := Lib.hid (T3.out.trans t4)
              have R4h := Lib.hid R4
              have OW4 := Lib.hid (OW3.out.out t4 (fun b hb he => OW3.out.ne_block R3h.out.blk (by decide) (by rw [hb, he])))
              have hsz4 := t4.size
              clear t4
              refine hK.out _ _ k4 (fun hS => ?_)
              clear hK K
              try simp only [Act.put, List.setIfInBounds_toArray, List.set_cons_zero, List.set_cons_succ]
              refine wpAnyH_take (i := 8) (oi := ⟨some 35, _, _, _, _, _⟩) (v := .int .i64 (N : Int)) rfl (by kernel_rfl) (by kernel_rfl) (by kernel_rfl) (fun _ _ _ h => h) (Or.inl ⟨by rfl, fun W hW => by go_simp⟩) hS ?_
              try simp only [Act.put, List.setIfInBounds_toArray, List.set_cons_zero, List.set_cons_succ]
              refine wpAnyH_take (i := 9) (oi := ⟨some 9, _, _, _, _, _⟩) (v := .int .u8 X) rfl (by kernel_rfl) (by kernel_rfl) (by kernel_rfl) (fun _ _ _ h => h) (Or.inl ⟨by rfl, fun W hW => by go_simp⟩) hS ?_
              try simp only [Act.put, List.setIfInBounds_toArray, List.set_cons_zero, List.set_cons_succ]
              refine wpAnyH_take (i := 10) (oi := ⟨some 10, _, _, _, _, _⟩) (v := .int .i64 (N : Int)) rfl (by kernel_rfl) (by kernel_rfl) (by kernel_rfl) (fun _ _ _ h => h) (Or.inl ⟨by rfl, fun W hW => by go_simp⟩) hS ?_
              try simp only [Act.put, List.setIfInBounds_toArray, List.set_cons_zero, List.set_cons_succ]
              refine wpAnyH_done (by kernel_rfl) ?_ _
              go_upto_region 14 with (fail)
              have HRW := Lib.hid (hG.out.symm.trans (row_run HNM.out HRUN.out))
              by_cases cN : many < n + N
              · have HE := Lib.hid (HRW.out.trans (if_pos (by rw [HN.out]; exact cN)))
                have dN : decide ((many : Int) - (n : Int) < (N : Int)) = true := decide_eq_true (by omega)
                have hw1 : IntKind.i64.wrap ((many : Int) - (n : Int)) = (many : Int) - (n : Int) := by rw [IntKind.wrap_i64]; omega
                clear cN
                unfold brokenE at GY
                go_wp2_with fail
                refine (GY.out _).mono ?_
                rintro e w5 ⟨rfl, rfl⟩
                go_wp2_with fail
                exact ⟨rfl, RowTo.bad HE.out T4.out R4h.out⟩
              · have HE := Lib.hid (HRW.out.trans (if_neg (by rw [HN.out]; exact cN)))
                have dN : decide ((many : Int) - (n : Int) < (N : Int)) = false := decide_eq_false (by omega)
                have hw1 : IntKind.i64.wrap ((many : Int) - (n : Int)) = (many : Int) - (n : Int) := by rw [IntKind.wrap_i64]; omega
                have hNb : n + N ≤ many := by omega
                clear cN HRW
                go_wp2_with fail
                refine (GN.out _).mono ?_
                rintro e w5 ⟨rfl, hw5⟩
                have hw5' := hw5.symm
                clear hw5
                subst hw5'
                go_wp2_with fail
                go_loopw [7, 54] (fun x7 s wr => ∃ (i : Nat) (A' : Option Addr) (c' : Nat), i ≤ N ∧ s = .int .i64 i ∧ x7 = .slice A' (n + i) c' ∧ Own wr w.heap.size 5 .u8 (.slice A' (n + i) c') (acc ++ List.replicate i X) ∧ TurnsIn (fun b => w.heap.size ≤ b) w4 wr) (fun _ s _ => N - (intOf s).toNat)
                case atStart => exact ⟨0, _, c, Nat.zero_le _, rfl, rfl, by rw [List.replicate_zero, List.append_nil]; exact OW4.out, TurnsIn.refl _ _⟩
                case round =>
                  obtain ⟨i, A', c', hi, rfl, rfl, own, tq⟩ := hrel
                  by_cases hiN : i < N
                  · have d1 : decide ((i : Int) < (N : Int)) = true := decide_eq_true (by omega)
                    have d2 : decide (i < N) = true := decide_eq_true hiN
                    have hzq := tq.size
                    have TQ := Lib.hid tq
                    have hz : w.heap.size ≤ wr.heap.size := by omega
                    have hlN : (acc ++ List.replicate i X).length = n + i := by rw [List.length_append, List.length_replicate, HN.out]
                    have HLN := Lib.hid hlN
                    have hsm : (acc ++ List.replicate i X).length + 1 ≤ 1099511627776 := by omega
                    have HSM := Lib.hid hsm
                    have HIN := Lib.hid hiN
                    clear tq hiN hlN hsm
                    go_wp2_with (first | (have _t := own; at_builtin; refine wpList_append_one _ rfl (.tmp 56) (.tmp 58) 27 rfl elem8 own rfl rfl HSM.out hz ?_; clear _t; intro v' w6 o6 g6 b6; obtain ⟨A6, c6, rfl, _, _, _⟩ := o6.opened; have e6 : (acc ++ List.replicate i X ++ [X]).length = n + (i + 1) := (by rw [List.length_append, HLN.out]; rfl); have F6 := Lib.hid (And.intro o6 g6); have E6 := Lib.hid e6; clear o6 g6 e6))
                    go_roundw
                    case rel =>
                      have o7 := F6.out.1
                      rw [E6.out, List.append_assoc, ← List.replicate_succ'] at o7
                      exact ⟨i + 1, A6, c6, HIN.out, by go_num, by rw [HN.out], o7, (TQ.out.alloc _).trans (.ofGrown F6.out.2 fun b hb => (own.lt b hb).1)⟩
                    case measure =>
                      have hiN := HIN.out
                      simp [intOf] <;> omega
                  · obtain rfl : i = N := by omega
                    have t9 : TurnsIn (· = g) w wr := T4.out.then_ tq (fun b hb he => absurd he (by omega))
                    have R9 := rd_far R4h.out tq hgN HVN.out
                    have T9 := Lib.hid t9
                    have R9h := Lib.hid R9
                    have ho9 := Lib.hid (show Octets (acc ++ List.replicate i X) from Octets.append HOA.out (Octets.replicate (by omega) i))
                    have OW9 := Lib.hid own
                    have hl9 := Lib.hid (show (acc ++ List.replicate i X).length = n + i by rw [List.length_append, List.length_replicate, HN.out])
                    clear own tq t9 R9
                    go_wp2_with fail
                    go_roundw
                    case rel =>
                      have o9 := OW9.out
                      rw [← hl9.out] at o9
                      exact ⟨acc ++ List.replicate i X, A', c', _, f, by rw [hl9.out], o9, ho9.out, by rw [hl9.out]; omega, by rw [hl9.out]; omega, R9h.out, T9.out, Lib.hid HE.out.symm⟩
                    case measure => simp [lenV] <;> omega
            · have GM := Lib.hid (number_no 2 w3.drew (HP3.out.drewN 1) ⟨R3h.out.blk.drewN 1, R3h.out.own.drewN 1, R3h.out.le⟩ hob hbl (by omega) hq)
              have HE := Lib.hid (hG.out.symm.trans ((row_err HNM.out).1 (by unfold runG; rw [bindG_ok _ HS.out, if_pos rfl, decide_eq_false (by rw [HN.out]; exact h0), bindG_ok _ (refG_no 11 _ _)]; exact bindG_miss _ (numG_no hq))))
              have HJ := Lib.hid hj
              have H0 := Lib.hid h0
              clear hq HS hj h0 y0
              go_wp2_with fail
              refine (GN.out _).mono ?_
              rintro e w5 ⟨rfl, hw5⟩
              have hw5' := hw5.symm
              clear hw5
              subst hw5'
              go_wp2_with fail
              refine wp_region_held_drew (S := (fun W' : World => W'.cell? ⟨ga, j, none⟩ = some (.int .u8 X))) (by kernel_rfl) Y0.out (fun hS => ?_)
              refine wpAnyH_take (i := 0) (oi := ⟨some 27, _, _, _, _, _⟩) (v := .slice (some ⟨ga, 0, none⟩) n c) rfl (by kernel_rfl) (by kernel_rfl) (by kernel_rfl) (fun _ _ _ h => h) (Or.inl ⟨by rfl, fun W hW => by go_simp⟩) hS ?_
              try simp only [Act.put, List.setIfInBounds_toArray, List.set_cons_zero, List.set_cons_succ]
              refine wpAnyH_take (i := 1) (oi := ⟨some 28, _, _, _, _, _⟩) (v := .slice (some ⟨ga, 0, none⟩) n c) rfl (by kernel_rfl) (by kernel_rfl) (by kernel_rfl) (fun _ _ _ h => h) (Or.inl ⟨by rfl, fun W hW => by go_simp⟩) hS ?_
              try simp only [Act.put, List.setIfInBounds_toArray, List.set_cons_zero, List.set_cons_succ]
              refine wpAnyH_take (i := 6) (oi := ⟨some 33, _, _, _, _, _⟩) (v := .pointer (some ⟨gp, 0, none⟩)) rfl (by kernel_rfl) (by kernel_rfl) (by kernel_rfl) (fun _ _ _ h => h) (Or.inl ⟨by rfl, fun W hW => by go_simp⟩) hS ?_
              try simp only [Act.put, List.setIfInBounds_toArray, List.set_cons_zero, List.set_cons_succ]
              refine wpAnyH_take (i := 2) (oi := ⟨some 29, _, _, _, _, _⟩) (v := .int .i64 (n : Int)) rfl (by kernel_rfl) (by kernel_rfl) (by kernel_rfl) (fun _ _ _ h => h) (Or.inl ⟨by rfl, fun W hW => by go_simp⟩) hS ?_
              try simp only [Act.put, List.setIfInBounds_toArray, List.set_cons_zero, List.set_cons_succ]
              refine wpAnyH_take (i := 3) (oi := ⟨some 30, _, _, _, _, _⟩) (v := .int .i64 (j : Int)) rfl (by kernel_rfl) (by kernel_rfl) (by kernel_rfl) (fun _ _ _ h => h) (Or.inl ⟨by rfl, fun W hW => by go_simp⟩) hS ?_
              try simp only [Act.put, List.setIfInBounds_toArray, List.set_cons_zero, List.set_cons_succ]
              refine wpAnyH_take (i := 4) (oi := ⟨some 31, _, _, _, _, _⟩) (v := .pointer (some ⟨ga, j, none⟩)) rfl (by kernel_rfl) (by kernel_rfl) (by kernel_rfl) (fun _ _ _ h => h) (Or.inl ⟨by rfl, fun W hW => by go_simp⟩) hS ?_
              try simp only [Act.put, List.setIfInBounds_toArray, List.set_cons_zero, List.set_cons_succ]
              refine wpAnyH_take (i := 5) (oi := ⟨some 32, _, _, _, _, _⟩) (v := .int .u8 X) rfl (by kernel_rfl) (by kernel_rfl) (by kernel_rfl) (fun _ _ _ h => h) (Or.inl ⟨by rfl, fun W hW => by have k1 : W.cell? ⟨ga, j, none⟩ = some (.int .u8 X) := hW; go_simp⟩) hS ?_
              try simp only [Act.put, List.setIfInBounds_toArray, List.set_cons_zero, List.set_cons_succ]
              refine wpAnyH_ready (rs := [7]) (by kernel_rfl) (by simp) ?_
              refine AllReadyH.cons rfl (fun K hK => ?_) AllReadyH.nil
              go_simp
              go_at_call 98
              refine GM.out.mono ?_
              rintro e w4 ⟨t4d, rfl, R4⟩
              have t4 : TurnsIn (· = g) w3 w4 := ⟨t4d.os, t4d.tape, t4d.output, t4d.size, t4d.block⟩
              exact ⟨rfl, RowTo.miss HE.out (T3.out.trans t4) R4⟩
        by_cases c17 : s = 17
        · obtain rfl : s = 17 := c17
          by_cases hq : q + k + 3 ≤ (bitsOf bs).length
          · have GM := Lib.hid (number_yes 3 w3 HP3.out R3h.out hob hbl (by omega) hq)
            have hvb := val_bd (((bitsOf_bit bs).drop (q + k)).take 3)
            rw [List.length_take, List.length_drop, Nat.min_eq_left (by omega)] at hvb
            obtain ⟨N, hN⟩ : ∃ N : Nat, val (((bitsOf bs).drop (q + k)).take 3) + 3 = (N : Int) := ⟨(val (((bitsOf bs).drop (q + k)).take 3) + 3).toNat, by omega⟩
            have HRUN : Hid (runG l acc (bitsOf bs) q = .ok (0, (N : Int)) (q + k + 3)) := Lib.hid (by unfold runG; rw [bindG_ok _ HS.out, if_neg (by decide), if_pos rfl, bindG_ok _ (numG_yes hq), hN]; rfl)
            obtain ⟨X, hX⟩ : ∃ X : Int, X = 0 := ⟨0, rfl⟩
            rw [← hX] at HRUN
            have hXb : 0 ≤ X ∧ X ≤ 255 := by omega
            have HX := Lib.hid hX
            generalize val (((bitsOf bs).drop (q + k)).take 3) = y at *
            have hyw : IntKind.i64.wrap (y + 3) = (N : Int) := by rw [IntKind.wrap_i64]; omega
            have hNb2 : N ≤ 200 := by omega
            have hN1b : 1 ≤ N := by omega
            clear hq hvb hX hN HS
            go_wp2_with fail
            refine GM.out.mono ?_
            rintro e w4 ⟨t4, rfl, R4⟩
            have T4 := Lib.hid (T3.out.trans t4)
            have R4h := Lib.hid R4
            have OW4 := Lib.hid (OW3.out.out t4 (fun b hb he => OW3.out.ne_block R3h.out.blk (by decide) (by rw [hb, he])))
            have hsz4 := t4.size
            clear t4
            clear GM
            go_upto_region 14 with (fail)
            rw [← HX.out]
            have HRW := Lib.hid (hG.out.symm.trans (row_run HNM.out HRUN.out))
            by_cases cN : many < n + N
            · have HE := Lib.hid (HRW.out.trans (if_pos (by rw [HN.out]; exact cN)))
              have dN : decide ((many : Int) - (n : Int) < (N : Int)) = true := decide_eq_true (by omega)
              have hw1 : IntKind.i64.wrap ((many : Int) - (n : Int)) = (many : Int) - (n : Int) := by rw [IntKind.wrap_i64]; omega
              clear cN
              unfold brokenE at GY
              go_wp2_with fail
              refine (GY.out _).mono ?_
              rintro e w5 ⟨rfl, rfl⟩
              go_wp2_with fail
              exact ⟨rfl, RowTo.bad HE.out T4.out R4h.out⟩
            · have HE := Lib.hid (HRW.out.trans (if_neg (by rw [HN.out]; exact cN)))
              have dN : decide ((many : Int) - (n : Int) < (N : Int)) = false := decide_eq_false (by omega)
              have hw1 : IntKind.i64.wrap ((many : Int) - (n : Int)) = (many : Int) - (n : Int) := by rw [IntKind.wrap_i64]; omega
              have hNb : n + N ≤ many := by omega
              clear cN HRW
              go_wp2_with fail
              refine (GN.out _).mono ?_
              rintro e w5 ⟨rfl, hw5⟩
              have hw5' := hw5.symm
              clear hw5
              subst hw5'
              go_wp2_with fail
              go_loopw [7, 54] (fun x7 s wr => ∃ (i : Nat) (A' : Option Addr) (c' : Nat), i ≤ N ∧ s = .int .i64 i ∧ x7 = .slice A' (n + i) c' ∧ Own wr w.heap.size 5 .u8 (.slice A' (n + i) c') (acc ++ List.replicate i X) ∧ TurnsIn (fun b => w.heap.size ≤ b) w4 wr) (fun _ s _ => N - (intOf s).toNat)
              case atStart => exact ⟨0, _, c, Nat.zero_le _, rfl, rfl, by rw [List.replicate_zero, List.append_nil]; exact OW4.out, TurnsIn.refl _ _⟩
              case round =>
                obtain ⟨i, A', c', hi, rfl, rfl, own, tq⟩ := hrel
                by_cases hiN : i < N
                · have d1 : decide ((i : Int) < (N : Int)) = true := decide_eq_true (by omega)
                  have d2 : decide (i < N) = true := decide_eq_true hiN
                  have hzq := tq.size
                  have TQ := Lib.hid tq
                  have hz : w.heap.size ≤ wr.heap.size := by omega
                  have hlN : (acc ++ List.replicate i X).length = n + i := by rw [List.length_append, List.length_replicate, HN.out]
                  have HLN := Lib.hid hlN
                  have hsm : (acc ++ List.replicate i X).length + 1 ≤ 1099511627776 := by omega
                  have HSM := Lib.hid hsm
                  have HIN := Lib.hid hiN
                  clear tq hiN hlN hsm
                  go_wp2_with (first | (have _t := own; at_builtin; refine wpList_append_one _ rfl (.tmp 56) (.tmp 58) 27 rfl elem8 own rfl rfl HSM.out hz ?_; clear _t; intro v' w6 o6 g6 b6; obtain ⟨A6, c6, rfl, _, _, _⟩ := o6.opened; have e6 : (acc ++ List.replicate i X ++ [X]).length = n + (i + 1) := (by rw [List.length_append, HLN.out]; rfl); have F6 := Lib.hid (And.intro o6 g6); have E6 := Lib.hid e6; clear o6 g6 e6))
                  go_roundw
                  case rel =>
                    have o7 := F6.out.1
                    rw [E6.out, List.append_assoc, ← List.replicate_succ'] at o7
                    exact ⟨i + 1, A6, c6, HIN.out, by go_num, by rw [HN.out], o7, (TQ.out.alloc _).trans (.ofGrown F6.out.2 fun b hb => (own.lt b hb).1)⟩
                  case measure =>
                    have hiN := HIN.out
                    simp [intOf] <;> omega
                · obtain rfl : i = N := by omega
                  have t9 : TurnsIn (· = g) w wr := T4.out.then_ tq (fun b hb he => absurd he (by omega))
                  have R9 := rd_far R4h.out tq hgN HVN.out
                  have T9 := Lib.hid t9
                  have R9h := Lib.hid R9
                  have ho9 := Lib.hid (show Octets (acc ++ List.replicate i X) from Octets.append HOA.out (Octets.replicate (by omega) i))
                  have OW9 := Lib.hid own
                  have hl9 := Lib.hid (show (acc ++ List.replicate i X).length = n + i by rw [List.length_append, List.length_replicate, HN.out])
                  clear own tq t9 R9
                  go_wp2_with fail
                  go_roundw
                  case rel =>
                    have o9 := OW9.out
                    rw [← hl9.out] at o9
                    exact ⟨acc ++ List.replicate i X, A', c', _, f, by rw [hl9.out], o9, ho9.out, by rw [hl9.out]; omega, by rw [hl9.out]; omega, R9h.out, T9.out, Lib.hid HE.out.symm⟩
                  case measure => simp [lenV] <;> omega
          · have GM := Lib.hid (number_no 3 w3 HP3.out R3h.out hob hbl (by omega) hq)
            have HE := Lib.hid (hG.out.symm.trans ((row_err HNM.out).1 (by unfold runG; rw [bindG_ok _ HS.out]; rw [if_neg (by decide), if_pos rfl]; exact bindG_miss _ (numG_no hq))))
            go_wp2_with fail
            refine GM.out.mono ?_
            rintro e w4 ⟨t4, rfl, R4⟩
            go_wp2_with fail
            exact ⟨rfl, RowTo.miss HE.out (T3.out.trans t4) R4⟩
        by_cases c18 : s = 18
        · obtain rfl : s = 18 := c18
          by_cases hq : q + k + 7 ≤ (bitsOf bs).length
          · have GM := Lib.hid (number_yes 7 w3 HP3.out R3h.out hob hbl (by omega) hq)
            have hvb := val_bd (((bitsOf_bit bs).drop (q + k)).take 7)
            rw [List.length_take, List.length_drop, Nat.min_eq_left (by omega)] at hvb
            obtain ⟨N, hN⟩ : ∃ N : Nat, val (((bitsOf bs).drop (q + k)).take 7) + 11 = (N : Int) := ⟨(val (((bitsOf bs).drop (q + k)).take 7) + 11).toNat, by omega⟩
            have HRUN : Hid (runG l acc (bitsOf bs) q = .ok (0, (N : Int)) (q + k + 7)) := Lib.hid (by unfold runG; rw [bindG_ok _ HS.out, if_neg (by decide), if_neg (by decide), if_pos rfl, bindG_ok _ (numG_yes hq), hN]; rfl)
            obtain ⟨X, hX⟩ : ∃ X : Int, X = 0 := ⟨0, rfl⟩
            rw [← hX] at HRUN
            have hXb : 0 ≤ X ∧ X ≤ 255 := by omega
            have HX := Lib.hid hX
            generalize val (((bitsOf bs).drop (q + k)).take 7) = y at *
            have hyw : IntKind.i64.wrap (y + 11) = (N : Int) := by rw [IntKind.wrap_i64]; omega
            have hNb2 : N ≤ 200 := by omega
            have hN1b : 1 ≤ N := by omega
            clear hq hvb hX hN HS
            go_wp2_with fail
            refine GM.out.mono ?_
            rintro e w4 ⟨t4, rfl, R4⟩
            have T4 := Lib.hid (T3.out.trans t4)
            have R4h := Lib.hid R4
            have OW4 := Lib.hid (OW3.out.out t4 (fun b hb he => OW3.out.ne_block R3h.out.blk (by decide) (by rw [hb, he])))
            have hsz4 := t4.size
            clear t4
            clear GM
            go_upto_region 14 with (fail)
            rw [← HX.out]
            have HRW := Lib.hid (hG.out.symm.trans (row_run HNM.out HRUN.out))
            by_cases cN : many < n + N
            · have HE := Lib.hid (HRW.out.trans (if_pos (by rw [HN.out]; exact cN)))
              have dN : decide ((many : Int) - (n : Int) < (N : Int)) = true := decide_eq_true (by omega)
              have hw1 : IntKind.i64.wrap ((many : Int) - (n : Int)) = (many : Int) - (n : Int) := by rw [IntKind.wrap_i64]; omega
              clear cN
              unfold brokenE at GY
              go_wp2_with fail
              refine (GY.out _).mono ?_
              rintro e w5 ⟨rfl, rfl⟩
              go_wp2_with fail
              exact ⟨rfl, RowTo.bad HE.out T4.out R4h.out⟩
            · have HE := Lib.hid (HRW.out.trans (if_neg (by rw [HN.out]; exact cN)))
              have dN : decide ((many : Int) - (n : Int) < (N : Int)) = false := decide_eq_false (by omega)
              have hw1 : IntKind.i64.wrap ((many : Int) - (n : Int)) = (many : Int) - (n : Int) := by rw [IntKind.wrap_i64]; omega
              have hNb : n + N ≤ many := by omega
              clear cN HRW
              go_wp2_with fail
              refine (GN.out _).mono ?_
              rintro e w5 ⟨rfl, hw5⟩
              have hw5' := hw5.symm
              clear hw5
              subst hw5'
              go_wp2_with fail
              go_loopw [7, 54] (fun x7 s wr => ∃ (i : Nat) (A' : Option Addr) (c' : Nat), i ≤ N ∧ s = .int .i64 i ∧ x7 = .slice A' (n + i) c' ∧ Own wr w.heap.size 5 .u8 (.slice A' (n + i) c') (acc ++ List.replicate i X) ∧ TurnsIn (fun b => w.heap.size ≤ b) w4 wr) (fun _ s _ => N - (intOf s).toNat)
              case atStart => exact ⟨0, _, c, Nat.zero_le _, rfl, rfl, by rw [List.replicate_zero, List.append_nil]; exact OW4.out, TurnsIn.refl _ _⟩
              case round =>
                obtain ⟨i, A', c', hi, rfl, rfl, own, tq⟩ := hrel
                by_cases hiN : i < N
                · have d1 : decide ((i : Int) < (N : Int)) = true := decide_eq_true (by omega)
                  have d2 : decide (i < N) = true := decide_eq_true hiN
                  have hzq := tq.size
                  have TQ := Lib.hid tq
                  have hz : w.heap.size ≤ wr.heap.size := by omega
                  have hlN : (acc ++ List.replicate i X).length = n + i := by rw [List.length_append, List.length_replicate, HN.out]
                  have HLN := Lib.hid hlN
                  have hsm : (acc ++ List.replicate i X).length + 1 ≤ 1099511627776 := by omega
                  have HSM := Lib.hid hsm
                  have HIN := Lib.hid hiN
                  clear tq hiN hlN hsm
                  go_wp2_with (first | (have _t := own; at_builtin; refine wpList_append_one _ rfl (.tmp 56) (.tmp 58) 27 rfl elem8 own rfl rfl HSM.out hz ?_; clear _t; intro v' w6 o6 g6 b6; obtain ⟨A6, c6, rfl, _, _, _⟩ := o6.opened; have e6 : (acc ++ List.replicate i X ++ [X]).length = n + (i + 1) := (by rw [List.length_append, HLN.out]; rfl); have F6 := Lib.hid (And.intro o6 g6); have E6 := Lib.hid e6; clear o6 g6 e6))
                  go_roundw
                  case rel =>
                    have o7 := F6.out.1
                    rw [E6.out, List.append_assoc, ← List.replicate_succ'] at o7
                    exact ⟨i + 1, A6, c6, HIN.out, by go_num, by rw [HN.out], o7, (TQ.out.alloc _).trans (.ofGrown F6.out.2 fun b hb => (own.lt b hb).1)⟩
                  case measure =>
                    have hiN := HIN.out
                    simp [intOf] <;> omega
                · obtain rfl : i = N := by omega
                  have t9 : TurnsIn (· = g) w wr := T4.out.then_ tq (fun b hb he => absurd he (by omega))
                  have R9 := rd_far R4h.out tq hgN HVN.out
                  have T9 := Lib.hid t9
                  have R9h := Lib.hid R9
                  have ho9 := Lib.hid (show Octets (acc ++ List.replicate i X) from Octets.append HOA.out (Octets.replicate (by omega) i))
                  have OW9 := Lib.hid own
                  have hl9 := Lib.hid (show (acc ++ List.replicate i X).length = n + i by rw [List.length_append, List.length_replicate, HN.out])
                  clear own tq t9 R9
                  go_wp2_with fail
                  go_roundw
                  case rel =>
                    have o9 := OW9.out
                    rw [← hl9.out] at o9
                    exact ⟨acc ++ List.replicate i X, A', c', _, f, by rw [hl9.out], o9, ho9.out, by rw [hl9.out]; omega, by rw [hl9.out]; omega, R9h.out, T9.out, Lib.hid HE.out.symm⟩
                  case measure => simp [lenV] <;> omega
          · have GM := Lib.hid (number_no 7 w3 HP3.out R3h.out hob hbl (by omega) hq)
            have HE := Lib.hid (hG.out.symm.trans ((row_err HNM.out).1 (by unfold runG; rw [bindG_ok _ HS.out]; rw [if_neg (by decide), if_neg (by decide), if_pos rfl]; exact bindG_miss _ (numG_no hq))))
            go_wp2_with fail
            refine GM.out.mono ?_
            rintro e w4 ⟨t4, rfl, R4⟩
            go_wp2_with fail
            exact ⟨rfl, RowTo.miss HE.out (T3.out.trans t4) R4⟩
        · have e16 : (s == 16) = false := by rw [beq_eq_false_iff_ne]; exact c16
          have e17 : (s == 17) = false := by rw [beq_eq_false_iff_ne]; exact c17
          have e18 : (s == 18) = false := by rw [beq_eq_false_iff_ne]; exact c18
          have HRUN : Hid (runG l acc (bitsOf bs) q = .ok (s, ((1 : Nat) : Int)) (q + k)) := Lib.hid (by unfold runG; rw [bindG_ok _ HS.out, if_neg c16, if_neg c17, if_neg c18]; rfl)
          obtain ⟨X, hX⟩ : ∃ X : Int, X = s := ⟨s, rfl⟩
          have hXb : 0 ≤ X ∧ X ≤ 255 := by omega
          have hsw : IntKind.u8.wrap s = X := by rw [IntKind.wrap_u8]; omega
          rw [← hX] at HRUN
          obtain ⟨N, hN⟩ : ∃ N : Nat, N = 1 := ⟨1, rfl⟩
          rw [← hN] at HRUN
          have hNb2 : N ≤ 200 := by omega
          have hN1b : 1 ≤ N := by omega
          have hN1 : (1 : Int) = (N : Int) := by omega
          have HN1 := Lib.hid hN1
          obtain ⟨w4, hw4⟩ : ∃ w4, w4 = w3 := ⟨w3, rfl⟩
          have T4 := T3
          have R4h := R3h
          have OW4 := OW3
          have hsz4 : w3.heap.size ≤ w4.heap.size := by rw [hw4]; omega
          rw [← hw4] at T4 R4h OW4
          have HW4 := Lib.hid hw4
          clear c16 c17 c18 hX hN HS hw4 hN1
          go_upto_region 14 with (fail)
          rw [HN1.out, ← HW4.out]
          have HRW := Lib.hid (hG.out.symm.trans (row_run HNM.out HRUN.out))
          by_cases cN : many < n + N
          · have HE := Lib.hid (HRW.out.trans (if_pos (by rw [HN.out]; exact cN)))
            have dN : decide ((many : Int) - (n : Int) < (N : Int)) = true := decide_eq_true (by omega)
            have hw1 : IntKind.i64.wrap ((many : Int) - (n : Int)) = (many : Int) - (n : Int) := by rw [IntKind.wrap_i64]; omega
            clear cN
            unfold brokenE at GY
            go_wp2_with fail
            refine (GY.out _).mono ?_
            rintro e w5 ⟨rfl, rfl⟩
            go_wp2_with fail
            exact ⟨rfl, RowTo.bad HE.out T4.out R4h.out⟩
          · have HE := Lib.hid (HRW.out.trans (if_neg (by rw [HN.out]; exact cN)))
            have dN : decide ((many : Int) - (n : Int) < (N : Int)) = false := decide_eq_false (by omega)
            have hw1 : IntKind.i64.wrap ((many : Int) - (n : Int)) = (many : Int) - (n : Int) := by rw [IntKind.wrap_i64]; omega
            have hNb : n + N ≤ many := by omega
            clear cN HRW
            go_wp2_with fail
            refine (GN.out _).mono ?_
            rintro e w5 ⟨rfl, hw5⟩
            have hw5' := hw5.symm
            clear hw5
            subst hw5'
            go_wp2_with fail
            go_loopw [7, 54] (fun x7 s wr => ∃ (i : Nat) (A' : Option Addr) (c' : Nat), i ≤ N ∧ s = .int .i64 i ∧ x7 = .slice A' (n + i) c' ∧ Own wr w.heap.size 5 .u8 (.slice A' (n + i) c') (acc ++ List.replicate i X) ∧ TurnsIn (fun b => w.heap.size ≤ b) w4 wr) (fun _ s _ => N - (intOf s).toNat)
            case atStart => exact ⟨0, _, c, Nat.zero_le _, rfl, rfl, by rw [List.replicate_zero, List.append_nil]; exact OW4.out, TurnsIn.refl _ _⟩
            case round =>
              obtain ⟨i, A', c', hi, rfl, rfl, own, tq⟩ := hrel
              by_cases hiN : i < N
              · have d1 : decide ((i : Int) < (N : Int)) = true := decide_eq_true (by omega)
                have d2 : decide (i < N) = true := decide_eq_true hiN
                have hzq := tq.size
                have TQ := Lib.hid tq
                have hz : w.heap.size ≤ wr.heap.size := by omega
                have hlN : (acc ++ List.replicate i X).length = n + i := by rw [List.length_append, List.length_replicate, HN.out]
                have HLN := Lib.hid hlN
                have hsm : (acc ++ List.replicate i X).length + 1 ≤ 1099511627776 := by omega
                have HSM := Lib.hid hsm
                have HIN := Lib.hid hiN
                clear tq hiN hlN hsm
                go_wp2_with (first | (have _t := own; at_builtin; refine wpList_append_one _ rfl (.tmp 56) (.tmp 58) 27 rfl elem8 own rfl rfl HSM.out hz ?_; clear _t; intro v' w6 o6 g6 b6; obtain ⟨A6, c6, rfl, _, _, _⟩ := o6.opened; have e6 : (acc ++ List.replicate i X ++ [X]).length = n + (i + 1) := (by rw [List.length_append, HLN.out]; rfl); have F6 := Lib.hid (And.intro o6 g6); have E6 := Lib.hid e6; clear o6 g6 e6))
                go_roundw
                case rel =>
                  have o7 := F6.out.1
                  rw [E6.out, List.append_assoc, ← List.replicate_succ'] at o7
                  exact ⟨i + 1, A6, c6, HIN.out, by go_num, by rw [HN.out], o7, (TQ.out.alloc _).trans (.ofGrown F6.out.2 fun b hb => (own.lt b hb).1)⟩
                case measure =>
                  have hiN := HIN.out
                  simp [intOf] <;> omega
              · obtain rfl : i = N := by omega
                have t9 : TurnsIn (· = g) w wr := T4.out.then_ tq (fun b hb he => absurd he (by omega))
                have R9 := rd_far R4h.out tq hgN HVN.out
                have T9 := Lib.hid t9
                have R9h := Lib.hid R9
                have ho9 := Lib.hid (show Octets (acc ++ List.replicate i X) from Octets.append HOA.out (Octets.replicate (by omega) i))
                have OW9 := Lib.hid own
                have hl9 := Lib.hid (show (acc ++ List.replicate i X).length = n + i by rw [List.length_append, List.length_replicate, HN.out])
                clear own tq t9 R9
                go_wp2_with fail
                go_roundw
                case rel =>
                  have o9 := OW9.out
                  rw [← hl9.out] at o9
                  exact ⟨acc ++ List.replicate i X, A', c', _, f, by rw [hl9.out], o9, ho9.out, by rw [hl9.out]; omega, by rw [hl9.out]; omega, R9h.out, T9.out, Lib.hid HE.out.symm⟩
                case measure => simp [lenV] <;> omega
    · obtain rfl : n = many := by omega
      have HRR := Lib.hid (show r = .ok acc q from hG.out.symm.trans (row_done (by rw [HN.out]; omega)))
      go_wp2_with fail
      go_ret
      rw [HRR.out]
      have o9 := OW.out
      rw [← HN.out] at o9 ⊢
      exact ⟨T2.out, R2, A, c, rfl, o9⟩
end Go.Proofs.YthmkeflkhocobaaDoor.Inf

namespace Go.Proofs.YthmkeflkhocobaaDoor.Inf
open Go.ChangeShapes Go.WideShapes Go.ChangeAt Go.RowKit Go.Proofs.YthmkeflkhocobaaDoor.Kit Go.Proofs.YthmkeflkhocobaaDoor.Bits Go.Proofs.YthmkeflkhocobaaDoor.Huf Go.Proofs.YthmkeflkhocobaaDoor.Df

def dyn7 (a : Int) (l : List Int) : G (List Int × List Int) := bindG (refG (!mayB (l.take (a + 257).toNat) || !mayB (l.drop (a + 257).toNat)) 11) fun _ => pureG (l.take (a + 257).toNat, l.drop (a + 257).toNat)
def dyn5 (a d : Int) (t : List Int) : G (List Int × List Int) := bindG (refG (!mayB t) 11) fun _ => bindG (rowG t (a + d + 258).toNat 320 []) fun l => dyn7 a l
def dyn3 (a d c : Int) : G (List Int × List Int) := bindG (refG (decide (286 < a + 257) || decide (30 < d + 1)) 11) fun _ => bindG (hdrG (min (c + 4).toNat 19) 0 (List.replicate 19 0)) fun t => dyn5 a d t
theorem dyn_is : dynG = bindG (numG 5) fun a => bindG (numG 5) fun d => bindG (numG 4) fun c => dyn3 a d c := rfl
theorem dyn3_yes {a d c : Int} (h : a + 257 ≤ 286 ∧ d + 1 ≤ 30) (hc : 0 ≤ c ∧ c < 16) (b : List Int) (p : Nat) : dyn3 a d c b p = bindG (hdrG (c + 4).toNat 0 (List.replicate 19 0)) (fun t => dyn5 a d t) b p := by
  unfold dyn3
  rw [decide_eq_false (by omega), decide_eq_false (by omega), Nat.min_eq_left (by omega)]
  exact bindG_ok _ (refG_no 11 b p)
theorem dyn3_no {a d c : Int} (h : ¬ (a + 257 ≤ 286 ∧ d + 1 ≤ 30)) (b : List Int) (p : Nat) : dyn3 a d c b p = .bad 11 := by
  unfold dyn3
  have : (decide (286 < a + 257) || decide (30 < d + 1)) = true := by
    rw [Bool.or_eq_true, decide_eq_true_eq, decide_eq_true_eq]
    omega
  rw [this]
  exact bindG_bad _ (refG_yes 11 b p)
theorem turns_lt : ∀ i, i < 19 → 0 ≤ turnsL.getD i 0 ∧ turnsL.getD i 0 < 19 := by decide
theorem laid_far {S : Nat → Prop} {g : Nat} {l : List Int} {w w' : World} (h : Laid g l w) (hl : 0 < l.length) (t : TurnsIn S w w') (hg : ¬ S g) : Laid g l w' := fun k hk =>
  (World.cell?_of_block (w := w) (a := ⟨g, k, none⟩) (t.block g (World.block_lt_of_cell? _ _ (h 0 hl)) hg)).trans (h k hk)
theorem laid_ne {gl g : Nat} {l : List Int} {w : World} (h : Laid gl l w) (hl : 0 < l.length) {B : Nat} {v : Value} {bs : List Int} {p : Nat} (R : Rd w B g v bs p) : gl ≠ g := by
  intro e
  subst e
  have h0 := (h 0 hl).symm.trans (R.blk.cell 0)
  obtain ⟨A, c, rfl, _⟩ := R.own.opened
  simp at h0
def DynTo (B g : Nat) (v : Value) (bs : List Int) (r : Res (List Int × List Int)) (w : World) (e : Ending) (w' : World) : Prop :=
  TurnsIn (· = g) w w' ∧ match r with
  | .miss => e = missingE ∧ ∃ q, Rd w' B g v bs q
  | .bad why => e = brokenE why ∧ ∃ q, Rd w' B g v bs q
  | .ok l q => Rd w' B g v bs q ∧ ∃ x y, e = .returned (.tuple #[.slice (some ⟨x, 0, none⟩) l.1.length l.1.length, .slice (some ⟨y, 0, none⟩) l.2.length l.2.length]) ∧ Own w' w.heap.size 5 .u8 (.slice (some ⟨x, 0, none⟩) l.1.length l.1.length) l.1 ∧ Own w' w.heap.size 5 .u8 (.slice (some ⟨y, 0, none⟩) l.2.length l.2.length) l.2
theorem DynTo.miss {B g : Nat} {v : Value} {bs : List Int} {r : Res (List Int × List Int)} {w w' : World} {q : Nat} (h : r = .miss) (t : TurnsIn (· = g) w w') (R : Rd w' B g v bs q) : DynTo B g v bs r w missingE w' := by
  subst h
  exact ⟨t, rfl, q, R⟩
theorem DynTo.bad {B g : Nat} {v : Value} {bs : List Int} {r : Res (List Int × List Int)} {w w' : World} {q : Nat} {why : Int} (h : r = .bad why) (t : TurnsIn (· = g) w w') (R : Rd w' B g v bs q) : DynTo B g v bs r w (brokenE why) w' := by
  subst h
  exact ⟨t, rfl, q, R⟩
theorem val_lt (b : List Int) (hb : Bit b) (p n : Nat) (h : p + n ≤ b.length) : 0 ≤ val ((b.drop p).take n) ∧ val ((b.drop p).take n) < 2 ^ n := by
  have := val_bd ((hb.drop p).take n)
  rwa [List.length_take, List.length_drop, Nat.min_eq_left (by omega)] at this

theorem holds_from8 {w : World} {B : Nat} {k : IntKind} {A : Option Addr} {c q : Nat} {xs : List Int} (h : Holds w B k A xs) (hc : xs.length ≤ c) : Holds w B k (if c = q then A else A.map fun x => x.add q) (xs.drop q) := by
  intro hx
  rw [List.length_drop] at hx
  obtain ⟨b, off, rfl, hb, hcs⟩ := h (by omega)
  rw [if_neg (by omega)]
  refine ⟨b, off + q, by simp only [Option.map_some, Addr.add]; split <;> simp_all, hb, fun j hj => ?_⟩
  rw [List.length_drop] at hj
  rw [Nat.add_assoc, hcs (q + j) (by omega)]
  simp [List.getD]
theorem own_open {w : World} {B : Nat} {e : TypeId} {k : IntKind} {A : Option Addr} {n c : Nat} {xs : List Int} (h : Own w B e k (.slice A n c) xs) : ∃ (A' : Option Addr) (c' : Nat), Value.slice A n c = .slice A' xs.length c' ∧ xs.length ≤ c' ∧ c' ≤ maxLen ∧ Holds w w.heap.size k A xs := by
  obtain ⟨A', c', e, h1, h2, h3⟩ := h.opened
  refine ⟨A', c', e, h1, h2, ?_⟩
  injection e with e1
  rw [e1]
  exact h3
/-- copy(v, ys), ys no shorter than v. -/
theorem wpList_copy_over {w : World} {ops : Array Oper} {rest : List Oper} {o : Oper} {a : Act} {Q : Exit → Act → World → Prop} (hgd : o.guard = none) (d s : Operand) (t : TypeId)
    (ho : o.op = .call { callee := .builtin .copy, args := #[d, s], argTypes := #[t, t] }) {e : TypeId} {k : IntKind} {bytes : Nat} (he : IntElem Tryd.prog t e k bytes)
    {B B' : Nat} {v : Value} {xs ys : List Int} (hown : Own w B e k v xs) (hpos : 0 < xs.length) (hd : a.eval d = v) {A : Option Addr} {c : Nat} (hs : a.eval s = .slice A ys.length c) (hr : Holds w B' k A ys)
    (hle : xs.length ≤ ys.length) (hbase : B ≤ w.heap.size)
    (h : ∀ w', Own w' B e k v (ys.take xs.length) → w.grownBy w' v.ownBlock → Below B w w' → wpList Tryd.prog ops Q rest (a.put o.dst (goInt (ys.take xs.length).length)) w') :
    wpList Tryd.prog ops Q (o :: rest) a w := by
  obtain ⟨ht, hinfo, hb8⟩ := he
  obtain ⟨i, hi, hz, hsi, hby⟩ := info_parts hinfo
  have hsz : (Tryd.prog.info? e).map (·.size) = some 1 := by rw [hi]; simp [hsi]
  obtain ⟨b, off, rfl, hb, hc⟩ := hr (by omega)
  have htl : (ys.take xs.length).length = xs.length := by rw [List.length_take]; omega
  rcases hown.2 with ⟨rfl, h1⟩ | ⟨g, cap, cur, rfl, hbg, hg, hnc, hcm, hcs, htake⟩
  · omega
  · refine wpList_copy_own hgd d s t t ho e ht hsz g 0 xs.length cap ⟨b, off, none⟩ ys.length c hd hs cur e hg ((ys.take xs.length).map (Value.int k)) ?_ ?_ ?_ (ints_one k _) ?_
    · rw [List.length_map, htl]
      exact (Nat.min_eq_right hle).symm
    · intro j u hu
      obtain ⟨hj, rfl⟩ := get_ints hu
      rw [add_plain, List.getD_eq_getElem?_getD, List.getElem?_take, if_pos (by omega), ← List.getD_eq_getElem?_getD]
      exact hc j (by omega)
    · rw [List.length_map, htl]
      omega
    · have hgrown : w.grownBy (w.setRow g (cur.toList.take 0 ++ (((ys.take xs.length).map (Value.int k)) ++ cur.toList.drop (0 + ((ys.take xs.length).map (Value.int k)).length))).toArray) (some g) :=
        ⟨rfl, rfl, rfl, by simp [World.setRow], fun j _ hj => setRow_other w g j _ (fun e => hj (by rw [e]))⟩
      rw [show goInt ((ys.take xs.length).map (Value.int k)).length = goInt (ys.take xs.length).length by rw [List.length_map]]
      refine h _ ?_ hgrown (below_of_grown hgrown hbase fun g' hg' => by simp at hg'; omega)
      refine ⟨by simp, .inr ⟨g, cap, _, by rw [htl], hbg, setRow_heap w g _ _ e _ hg, by omega, hcm, ?_, ?_⟩⟩
      · simp; omega
      · simp only [List.take_zero, List.nil_append, Nat.zero_add, List.length_map, Nat.mul_one]
        rw [List.take_append_of_le_length (by rw [List.length_map, htl]; omega), List.take_of_length_le (by rw [List.length_map, htl]; omega)]

set_option maxRecDepth 100000 in
set_option maxHeartbeats 12800000 in
theorem dynamic_any (B g gp : Nat) (v u1 u2 : Value) (bs : List Int) (p : Nat) (w : World) (hp : Block w gp 136 #[.pointer (some ⟨g, 0, none⟩), u1, u2]) (R : Rd w B g v bs p) (hob : Octets bs) (hbl : bs.length ≤ 1000000) (hL : Laid 3 turnsL w) :
    Calls Tryd.prog 101 #[.pointer (some ⟨gp, 0, none⟩)] w (DynTo B g v bs (dynG (bitsOf bs) p) w) := by
  have hgN := R.blk.lt
  have hvN : ∀ b, v.ownBlock = some b → b < w.heap.size := fun b hb => (R.own.lt b hb).2
  have hgp : gp ≠ g := Block.ne_of hp R.blk (by decide)
  have hgL : 3 ≠ g := laid_ne hL (by decide) R
  have HP := Lib.hid hp
  have HVN := Lib.hid hvN
  have HL := Lib.hid hL
  have HGL := Lib.hid hgL
  have HB := Lib.hid (bitsOf_bit bs)
  obtain ⟨r, hr⟩ : ∃ r, dynG (bitsOf bs) p = r := ⟨_, rfl⟩
  rw [hr]
  rw [dyn_is] at hr
  have HR := Lib.hid hr.symm
  have GN := Lib.hid (fun W => refuse_no 11 W)
  have GY := Lib.hid (fun W => refuse_yes 11 W)
  unfold brokenE at GY
  clear hr hp hvN hL hgL
  by_cases hq1 : p + 5 ≤ (bitsOf bs).length
  · have GM := Lib.hid (number_yes 5 w HP.out R hob hbl (by omega) hq1)
    have hv1 := val_lt (bitsOf bs) HB.out (p) 5 hq1
    have HR1 := Lib.hid (HR.out.trans (bindG_ok _ (numG_yes hq1)))
    clear hq1
    generalize val (((bitsOf bs).drop (p)).take 5) = a at *
    rw [show (2 : Int) ^ 5 = 32 by decide] at hv1
    go_enter Tryd.func101, Tryd.ntmps101
    go_upto_region 2 with (fail)
    refine GM.out.mono ?_
    rintro e w1 ⟨t1, rfl, R1⟩
    have hp1 := (HP.out).out t1 hgp
    have T1 := Lib.hid (t1)
    have HP1 := Lib.hid hp1
    have R1h := Lib.hid R1
    clear hp1 GM t1 R1
    by_cases hq2 : p + 5 + 5 ≤ (bitsOf bs).length
    · have GM := Lib.hid (number_yes 5 w1 HP1.out R1h.out hob hbl (by omega) hq2)
      have hv2 := val_lt (bitsOf bs) HB.out (p + 5) 5 hq2
      have HR2 := Lib.hid (HR1.out.trans (bindG_ok _ (numG_yes hq2)))
      clear hq2
      generalize val (((bitsOf bs).drop (p + 5)).take 5) = d at *
      rw [show (2 : Int) ^ 5 = 32 by decide] at hv2
      go_upto_region 3 with (fail)
      refine GM.out.mono ?_
      rintro e w2 ⟨t2, rfl, R2⟩
      have hp2 := (HP1.out).out t2 hgp
      have T2 := Lib.hid (T1.out.trans t2)
      have HP2 := Lib.hid hp2
      have R2h := Lib.hid R2
      clear hp2 GM t2 R2
      by_cases hq3 : p + 5 + 5 + 4 ≤ (bitsOf bs).length
      · have GM := Lib.hid (number_yes 4 w2 HP2.out R2h.out hob hbl (by omega) hq3)
        have hv3 := val_lt (bitsOf bs) HB.out (p + 5 + 5) 4 hq3
        have HR3 := Lib.hid (HR2.out.trans (bindG_ok _ (numG_yes hq3)))
        clear hq3
        generalize val (((bitsOf bs).drop (p + 5 + 5)).take 4) = c at *
        rw [show (2 : Int) ^ 4 = 16 by decide] at hv3
        go_upto_region 4 with (fail)
        refine GM.out.mono ?_
        rintro e w3 ⟨t3, rfl, R3⟩
        have hp3 := (HP2.out).out t3 hgp
        have T3 := Lib.hid (T2.out.trans t3)
        have HP3 := Lib.hid hp3
        have R3h := Lib.hid R3
        clear hp3 GM t3 R3

        by_cases hc : a + 257 ≤ 286 ∧ d + 1 ≤ 30
        · have HE := Lib.hid (HR3.out.trans (dyn3_yes hc ⟨hv3.1, hv3.2⟩ _ _))
          have d1 : decide (286 < a + 257) = false := decide_eq_false (by omega)
          have d2 : decide (30 < d + 1) = false := decide_eq_false (by omega)
          obtain ⟨n0, hn0⟩ : ∃ n0 : Nat, c + 4 = (n0 : Int) := ⟨(c + 4).toNat, by omega⟩
          have hn19 : n0 ≤ 19 := by omega
          rw [hn0, Int.toNat_natCast] at HE
          have hcw : IntKind.i64.wrap (c + 4) = (n0 : Int) := by rw [IntKind.wrap_i64]; omega
          obtain ⟨ma, hma⟩ : ∃ ma : Nat, a + 257 = (ma : Int) := ⟨(a + 257).toNat, by omega⟩
          obtain ⟨md, hmd⟩ : ∃ md : Nat, d + 1 = (md : Int) := ⟨(d + 1).toNat, by omega⟩
          have haw : IntKind.i64.wrap (a + 257) = (ma : Int) := by rw [IntKind.wrap_i64]; omega
          have hdw : IntKind.i64.wrap (d + 1) = (md : Int) := by rw [IntKind.wrap_i64]; omega
          have hmab : 257 ≤ ma ∧ ma ≤ 286 := by omega
          have hmdb : 1 ≤ md ∧ md ≤ 30 := by omega
          have HMA := Lib.hid hma
          have HMD := Lib.hid hmd
          have e1 : decide ((286 : Int) < (ma : Int)) = false := decide_eq_false (by omega)
          have e2 : decide ((30 : Int) < (md : Int)) = false := decide_eq_false (by omega)
          have e3 : decide (286 < ma) = false := decide_eq_false (by omega)
          have e4 : decide (30 < md) = false := decide_eq_false (by omega)
          clear hc hv3 HR3 hn0
          rw [HMA.out, HMD.out] 
          go_wp2_with fail
          refine (GN.out _).mono ?_
          rintro e w5 ⟨rfl, hw5⟩
          have hw5' := hw5.symm
          clear hw5
          subst hw5'
          obtain ⟨N, hN⟩ : ∃ N, w.heap.size = N := ⟨_, rfl⟩
          have hszN : N ≤ w3.heap.size := by have := T3.out.size; omega
          go_wp2_with (at_make; refine wpList_make_ints _ rfl _ _ _ rfl elem8 19 19 rfl rfl rfl rfl (Nat.le_refl _) (by omega) ?_; intro w6 O6 b6 s6)
          have T6 := Lib.hid (T3.out.trans (TurnsIn.ofNew b6))
          have HP6 := Lib.hid (HP3.out.below b6 HP3.out.lt)
          have R6h := Lib.hid (R3h.out.below b6)
          obtain ⟨gl, hgl⟩ : ∃ gl, w3.heap.size = gl := ⟨_, rfl⟩
          rw [hgl] at O6 s6
          rw [hgl]
          have O6h := Lib.hid O6
          have hglN : N ≤ gl := by omega
          clear O6 b6
          go_loopw [32] (fun s wr => ∃ (i q : Nat) (acc : List Int), i ≤ n0 ∧ s = .int .i64 i ∧ Own wr gl 5 .u8 (.slice (some ⟨gl, 0, none⟩) 19 19) acc ∧ acc.length = 19 ∧ Octets acc ∧ Rd wr B g v bs q ∧ TurnsIn (· = g) w wr ∧ gl < wr.heap.size ∧ Hid (bindG (hdrG (n0 - i) i acc) (fun t => dyn5 a d t) (bitsOf bs) q = r)) (fun s _ => n0 - (intOf s).toNat)
          case atStart => exact ⟨0, _, List.replicate 19 0, Nat.zero_le _, rfl, O6h.out, List.length_replicate .., Octets.replicate (by omega) 19, R6h.out, T6.out, s6, Lib.hid HE.out.symm⟩
          case round =>
            obtain ⟨i, q, acc, hi, rfl, own, hacc, hoa, R7, t7, hgz, hG⟩ := hrel
            have OW := Lib.hid own
            have HACC := Lib.hid hacc
            have HOA := Lib.hid hoa
            have R7h := Lib.hid R7
            have T7 := Lib.hid t7
            have HP7 := Lib.hid (HP.out.out t7 hgp)
            have HL7 := Lib.hid (laid_far HL.out (by decide) t7 HGL.out)
            clear own hacc hoa R7 t7 R
            by_cases hlt : i < n0
            · have d5 : decide ((i : Int) < (n0 : Int)) = true := decide_eq_true (by omega)
              have d6 : decide (i < n0) = true := decide_eq_true hlt
              obtain ⟨f, hf⟩ : ∃ f, n0 - i = f + 1 := ⟨n0 - i - 1, by omega⟩
              rw [hf] at hG
              have hG1 := hG.out
              rw [hdrG] at hG1
              have hG2 : bindG (numG 3) (fun v => bindG (hdrG f (i + 1) (acc.set (turnsL.getD i 0).toNat v)) (fun t => dyn5 a d t)) (bitsOf bs) q = r := by
                rw [← hG1]
                by_cases hx : q + 3 ≤ (bitsOf bs).length
                · rw [bindG_ok _ (numG_yes hx)]
                  unfold bindG
                  rw [numG_yes hx]
                · rw [bindG_miss _ (numG_no hx), bindG_miss _ (bindG_miss _ (numG_no hx))]
              have HG := Lib.hid hG2
              have htl := turns_lt i (by omega)
              have y0 : wr.cell? ⟨3, i, none⟩ = some (.int .i64 (turnsL.getD i 0)) := HL7.out i (by show i < 19; omega)
              obtain ⟨t, ht⟩ : ∃ t : Nat, turnsL.getD i 0 = (t : Int) := ⟨(turnsL.getD i 0).toNat, by omega⟩
              rw [ht, Int.toNat_natCast] at HG
              rw [ht] at y0
              have ht19 : t < 19 := by omega
              have hgg : gl ≠ g := fun he => OW.out.ne_block R7h.out.blk (by decide) (by rw [← he]; rfl)
              have Y0 := Lib.hid y0
              have hi19 : (i : Int) < 19 := by omega
              have hi0 : (0 : Int) ≤ (i : Int) := by omega
              have ht0 : (0 : Int) ≤ (t : Int) := by omega
              have htI : (t : Int) < 19 := by omega
              have HF := Lib.hid hf
              have HLT := Lib.hid hlt
              clear hG hG1 hG2 htl ht y0 hf hlt
              by_cases hx : q + 3 ≤ (bitsOf bs).length
              · have GM := Lib.hid (number_yes 3 wr.drew (HP7.out.drewN 1) ⟨R7h.out.blk.drewN 1, R7h.out.own.drewN 1, R7h.out.le⟩ hob hbl (by omega) hx)
                have hv7 := val_lt (bitsOf bs) HB.out q 3 hx
                have HG8 := Lib.hid (HG.out.symm.trans (bindG_ok _ (numG_yes hx)))
                clear hx
                generalize val (((bitsOf bs).drop q).take 3) = x at *
                rw [show (2 : Int) ^ 3 = 8 by decide] at hv7
                have hxw : IntKind.u8.wrap x = x := by rw [IntKind.wrap_u8]; omega
                have hk := OW.out.cellAt HACC.out.symm (i := t) (by rw [HACC.out]; omega)
                have HK := Lib.hid hk
                clear hk
                go_wp2_with fail
                refine wp_region_held_drew (S := (fun W' : World => W'.cell? ⟨3, i, none⟩ = some (.int .i64 (t : Int)))) (by kernel_rfl) Y0.out (fun hS => ?_)
                refine wpAnyH_take (i := 0) (oi := ⟨some 35, _, _, _, _, _⟩) (v := .slice (some ⟨gl, 0, none⟩) 19 19) rfl (by kernel_rfl) (by kernel_rfl) (by kernel_rfl) (fun _ _ _ h => h) (Or.inl ⟨by rfl, fun W hW => by go_simp⟩) hS ?_
                try simp only [Act.put, List.setIfInBounds_toArray, List.set_cons_zero, List.set_cons_succ]
                refine wpAnyH_take (i := 1) (oi := ⟨some 36, _, _, _, _, _⟩) (v := .int .i64 (i : Int)) rfl (by kernel_rfl) (by kernel_rfl) (by kernel_rfl) (fun _ _ _ h => h) (Or.inl ⟨by rfl, fun W hW => by go_simp⟩) hS ?_
                try simp only [Act.put, List.setIfInBounds_toArray, List.set_cons_zero, List.set_cons_succ]
                refine wpAnyH_take (i := 4) (oi := ⟨some 39, _, _, _, _, _⟩) (v := .pointer (some ⟨gp, 0, none⟩)) rfl (by kernel_rfl) (by kernel_rfl) (by kernel_rfl) (fun _ _ _ h => h) (Or.inl ⟨by rfl, fun W hW => by go_simp⟩) hS ?_
                try simp only [Act.put, List.setIfInBounds_toArray, List.set_cons_zero, List.set_cons_succ]
                refine wpAnyH_take (i := 2) (oi := ⟨some 37, _, _, _, _, _⟩) (v := .pointer (some ⟨3, i, none⟩)) rfl (by kernel_rfl) (by kernel_rfl) (by kernel_rfl) (fun _ _ _ h => h) (Or.inl ⟨by rfl, fun W hW => by go_simp⟩) hS ?_
                try simp only [Act.put, List.setIfInBounds_toArray, List.set_cons_zero, List.set_cons_succ]
                refine wpAnyH_take (i := 3) (oi := ⟨some 38, _, _, _, _, _⟩) (v := .int .i64 (t : Int)) rfl (by kernel_rfl) (by kernel_rfl) (by kernel_rfl) (fun _ _ _ h => h) (Or.inl ⟨by rfl, fun W hW => by have k1 : W.cell? ⟨3, i, none⟩ = some (.int .i64 (t : Int)) := hW; go_simp⟩) hS ?_
                try simp only [Act.put, List.setIfInBounds_toArray, List.set_cons_zero, List.set_cons_succ]
                refine wpAnyH_ready (rs := [5]) (by kernel_rfl) (by simp) ?_
                refine AllReadyH.cons rfl (fun K hK => ?_) AllReadyH.nil
                go_simp
                go_at_call 98
                refine GM.out.mono ?_
                rintro e w8 ⟨t8d, rfl, R8⟩
                have t8 : TurnsIn (· = g) wr w8 := ⟨t8d.os, t8d.tape, t8d.output, t8d.size, t8d.block⟩
                have k8 : w8.cell? ⟨3, i, none⟩ = some (.int .i64 (t : Int)) := (World.cell?_of_block (w := wr) (a := ⟨3, i, none⟩) (t8.block _ (World.block_lt_of_cell? _ _ Y0.out) HGL.out)).trans Y0.out
                have o8 := OW.out.out t8 (fun b hb he => hgg (by rw [← he]; exact Option.some.inj hb))
                have kk8 := o8.cellAt HACC.out.symm (i := t) (by rw [HACC.out]; omega)
                have kf8 := o8.frozenAt HACC.out.symm t
                have hsz8 := t8.size
                have O8 := Lib.hid o8
                have T8 := Lib.hid (T7.out.trans t8)
                have R8h := Lib.hid R8
                clear GM t8d t8 o8 R8
                refine hK.out _ _ k8 (fun hS => ?_)
                clear hK K
                try simp only [Act.put, List.setIfInBounds_toArray, List.set_cons_zero, List.set_cons_succ]
                refine wpAnyH_take (i := 6) (oi := ⟨some 41, _, _, _, _, _⟩) (v := .int .u8 x) rfl (by kernel_rfl) (by kernel_rfl) (by kernel_rfl) (fun _ _ _ h => h) (Or.inl ⟨by rfl, fun W hW => by go_simp⟩) hS ?_
                try simp only [Act.put, List.setIfInBounds_toArray, List.set_cons_zero, List.set_cons_succ]
                refine wpAnyH_take (i := 7) (oi := ⟨some 42, _, _, _, _, _⟩) (v := .pointer (some ⟨gl, t, none⟩)) rfl (by kernel_rfl) (by kernel_rfl) (by kernel_rfl) (fun _ _ _ h => h) (Or.inl ⟨by rfl, fun W hW => by go_simp⟩) hS ?_
                try simp only [Act.put, List.setIfInBounds_toArray, List.set_cons_zero, List.set_cons_succ]
                refine wpAnyH_ready (rs := [8]) (by kernel_rfl) (by simp) ?_
                refine AllReadyH.cons rfl (fun K hK => ?_) AllReadyH.nil
                go_simp
                have k9 : (w8.setCell ⟨gl, t, none⟩ (.int .u8 x)).cell? ⟨3, i, none⟩ = some (.int .i64 (t : Int)) := by
                  refine (World.cell?_of_block (w := w8) (a := ⟨3, i, none⟩) (Below.heap_setCell w8 _ _ _ ?_)).trans k8
                  show 3 ≠ gl
                  intro he
                  have hu := (World.cell?_of_block (w := wr) (a := ⟨3, i, none⟩) rfl).trans Y0.out
                  have hz9 := World.block_lt_of_cell? _ _ (HL.out 0 (by decide))
                  have : 3 < w.heap.size := hz9
                  omega
                refine hK.out _ _ k9 (fun hS => ?_)
                clear hK K
                try simp only [Act.put, List.setIfInBounds_toArray, List.set_cons_zero, List.set_cons_succ]
                refine wpAnyH_done (by kernel_rfl) ?_ _
                go_wp2_with fail
                go_roundw
                case rel =>
                  have os := O8.out.stored HACC.out.symm t x
                  have t10 := (T8.out).then_ (TurnsIn.ofGrown (S := fun b => b = gl) os.2 fun b hb => (Option.some.inj hb).symm) (fun b hb he => absurd hb (by omega))
                  have r10 := R8h.out.out (TurnsIn.ofGrown (S := fun b => b = gl) os.2 fun b hb => (Option.some.inj hb).symm) (Ne.symm hgg) (fun b hb he => by have := HVN.out b hb; omega)
                  have h1 := HLT.out
                  have h2 := HF.out
                  refine ⟨i + 1, q + 3, acc.set t x, by omega, by go_num, os.1, by rw [List.length_set]; exact HACC.out, fun y hy => ?_, r10, t10, by have := os.2.size; omega, ?_⟩
                  · rcases List.mem_or_eq_of_mem_set hy with hy | rfl
                    · exact HOA.out y hy
                    · omega
                  · rw [show n0 - (i + 1) = f by omega]
                    exact Lib.hid HG8.out.symm
                case measure =>
                  have h1 := HLT.out
                  simp [intOf] <;> omega
              · have GM := Lib.hid (number_no 3 wr.drew (HP7.out.drewN 1) ⟨R7h.out.blk.drewN 1, R7h.out.own.drewN 1, R7h.out.le⟩ hob hbl (by omega) hx)
                have HE9 := Lib.hid (HG.out.symm.trans (bindG_miss _ (numG_no hx)))
                clear hx
                go_wp2_with fail
                refine wp_region_held_drew (S := (fun W' : World => W'.cell? ⟨3, i, none⟩ = some (.int .i64 (t : Int)))) (by kernel_rfl) Y0.out (fun hS => ?_)
                refine wpAnyH_take (i := 0) (oi := ⟨some 35, _, _, _, _, _⟩) (v := .slice (some ⟨gl, 0, none⟩) 19 19) rfl (by kernel_rfl) (by kernel_rfl) (by kernel_rfl) (fun _ _ _ h => h) (Or.inl ⟨by rfl, fun W hW => by go_simp⟩) hS ?_
                try simp only [Act.put, List.setIfInBounds_toArray, List.set_cons_zero, List.set_cons_succ]
                refine wpAnyH_take (i := 1) (oi := ⟨some 36, _, _, _, _, _⟩) (v := .int .i64 (i : Int)) rfl (by kernel_rfl) (by kernel_rfl) (by kernel_rfl) (fun _ _ _ h => h) (Or.inl ⟨by rfl, fun W hW => by go_simp⟩) hS ?_
                try simp only [Act.put, List.setIfInBounds_toArray, List.set_cons_zero, List.set_cons_succ]
                refine wpAnyH_take (i := 4) (oi := ⟨some 39, _, _, _, _, _⟩) (v := .pointer (some ⟨gp, 0, none⟩)) rfl (by kernel_rfl) (by kernel_rfl) (by kernel_rfl) (fun _ _ _ h => h) (Or.inl ⟨by rfl, fun W hW => by go_simp⟩) hS ?_
                try simp only [Act.put, List.setIfInBounds_toArray, List.set_cons_zero, List.set_cons_succ]
                refine wpAnyH_take (i := 2) (oi := ⟨some 37, _, _, _, _, _⟩) (v := .pointer (some ⟨3, i, none⟩)) rfl (by kernel_rfl) (by kernel_rfl) (by kernel_rfl) (fun _ _ _ h => h) (Or.inl ⟨by rfl, fun W hW => by go_simp⟩) hS ?_
                try simp only [Act.put, List.setIfInBounds_toArray, List.set_cons_zero, List.set_cons_succ]
                refine wpAnyH_take (i := 3) (oi := ⟨some 38, _, _, _, _, _⟩) (v := .int .i64 (t : Int)) rfl (by kernel_rfl) (by kernel_rfl) (by kernel_rfl) (fun _ _ _ h => h) (Or.inl ⟨by rfl, fun W hW => by have k1 : W.cell? ⟨3, i, none⟩ = some (.int .i64 (t : Int)) := hW; go_simp⟩) hS ?_
                try simp only [Act.put, List.setIfInBounds_toArray, List.set_cons_zero, List.set_cons_succ]
                refine wpAnyH_ready (rs := [5]) (by kernel_rfl) (by simp) ?_
                refine AllReadyH.cons rfl (fun K hK => ?_) AllReadyH.nil
                go_simp
                go_at_call 98
                refine GM.out.mono ?_
                rintro e w8 ⟨t8d, rfl, R8⟩
                have t8 : TurnsIn (· = g) wr w8 := ⟨t8d.os, t8d.tape, t8d.output, t8d.size, t8d.block⟩
                exact ⟨rfl, DynTo.miss HE9.out (T7.out.trans t8) R8⟩
            · have d5 : decide ((i : Int) < (n0 : Int)) = false := decide_eq_false (by omega)
              have d6 : decide (i < n0) = false := decide_eq_false hlt
              have hG1 := hG.out
              rw [show n0 - i = 0 by omega] at hG1
              have hG2 : dyn5 a d acc (bitsOf bs) q = r := hG1
              have HG := Lib.hid hG2
              clear hG hG1 hG2
              obtain ⟨m, hm⟩ : ∃ m, mayB acc = m := ⟨_, rfl⟩
              have hh := OW.out.opened
              obtain ⟨A0, c0, eA, hcA, hmA, hrA⟩ := hh
              injection eA with eA1 eA2 eA3
              subst eA1 eA3
              clear eA2
              have hrd : Holds wr wr.heap.size .u8 (some ⟨gl, 0, none⟩) acc := hrA
              cases m with
              | false =>
                have HE := Lib.hid (HG.out.symm.trans (by unfold dyn5; rw [hm]; exact bindG_bad _ rfl : dyn5 a d acc (bitsOf bs) q = .bad 11))
                have GT := Lib.hid (new_no (some ⟨gl, 0, none⟩) acc 19 wr HOA.out hcA hmA hrd hm)
                rw [HACC.out] at GT
                clear hm hrA hrd hcA hmA
                go_wp2_with fail
                refine GT.out.mono ?_
                rintro e w9 ⟨rfl, rfl⟩
                go_wp2_with fail
                refine (GY.out _).mono ?_
                rintro e w9 ⟨rfl, rfl⟩
                go_wp2_with fail
                exact ⟨rfl, DynTo.bad HE.out T7.out R7h.out⟩
              | true =>
                have HE := Lib.hid (HG.out.symm.trans (by unfold dyn5; rw [hm]; exact bindG_ok _ rfl : dyn5 a d acc (bitsOf bs) q = bindG (rowG acc (a + d + 258).toNat 320 []) (fun l => dyn7 a l) (bitsOf bs) q))
                have GT := Lib.hid (new_yes (some ⟨gl, 0, none⟩) acc 19 wr HOA.out hcA hmA hrd hm)
                rw [HACC.out] at GT
                unfold NewOk at GT
                have HM := Lib.hid hm
                have hq1 : (a + d + 258).toNat = ma + md := by have := HMA.out; have := HMD.out; omega
                rw [hq1] at HE
                have hwm : IntKind.i64.wrap ((ma : Int) + (md : Int)) = ((ma + md : Nat) : Int) := by rw [IntKind.wrap_i64]; omega
                clear hm hrA hrd hcA hmA hq1
                go_wp2_with fail
                refine GT.out.mono ?_
                rintro e w9 ⟨gt, vt, rfl, hgt, tb9, b9⟩
                have hp9 := HP7.out.below b9 HP7.out.lt
                have R9 := R7h.out.below b9
                have T9 := Lib.hid (T7.out.trans (TurnsIn.ofNew b9))
                go_wp2_with fail
                refine (GN.out _).mono ?_
                rintro e w10 ⟨rfl, hw10⟩
                have hw10' := hw10.symm
                clear hw10
                subst hw10'
                have GR := Lib.hid (row_any B g gp gt wr.heap.size v u1 u2 vt bs acc q (ma + md) w9 hp9 R9 hob hbl HM.out HOA.out (by rw [HACC.out]; omega) tb9 (by omega))
                unfold RowTo at GR
                have HP9 := Lib.hid hp9
                have R9h := Lib.hid R9
                have hs9 := b9.size
                obtain ⟨z, hz⟩ : ∃ z, rowG acc (ma + md) 320 [] (bitsOf bs) q = z := ⟨_, rfl⟩
                rw [hz] at GR
                have HZ := Lib.hid hz
                clear hz tb9 b9 hp9 R9 GT
                cases z with
                | miss =>
                  have HE2 := Lib.hid (HE.out.trans (bindG_miss _ HZ.out))
                  unfold missingE at GR
                  go_wp2_with fail
                  refine GR.out.mono ?_
                  rintro e w11 ⟨t11, rfl, q11, R11⟩
                  go_wp2_with fail
                  exact ⟨rfl, DynTo.miss HE2.out (T9.out.trans t11) R11⟩
                | bad why =>
                  have HE2 := Lib.hid (HE.out.trans (bindG_bad _ HZ.out))
                  unfold brokenE at GR
                  go_wp2_with fail
                  refine GR.out.mono ?_
                  rintro e w11 ⟨t11, rfl, q11, R11⟩
                  go_wp2_with fail
                  exact ⟨rfl, DynTo.bad HE2.out (T9.out.trans t11) R11⟩
                | ok l q11 =>
                  have HE2 := Lib.hid (HE.out.trans (bindG_ok _ HZ.out))
                  have hl := row_ok HB.out HM.out HOA.out (by rw [HACC.out]; omega) 320 (fun _ h => absurd h (by simp)) (by simp) (by simp; omega) HZ.out
                  have HLO := Lib.hid hl.1
                  have hll := hl.2
                  have HLL := Lib.hid hll
                  have hta : (a + 257).toNat = ma := by have := HMA.out; omega
                  have HE3 : Hid (r = if (!mayB (l.take ma) || !mayB (l.drop ma)) = true then .bad 11 else .ok (l.take ma, l.drop ma) q11) := Lib.hid (by
                    rw [HE2.out]
                    unfold dyn7
                    rw [hta]
                    cases (!mayB (l.take ma) || !mayB (l.drop ma)) <;> rfl)
                  clear hl HE2 hta
                  go_wp2_with fail
                  refine GR.out.mono ?_
                  rintro e w11 ⟨t11, R11, A11, c11, rfl, o11⟩
                  have T11 := Lib.hid (T9.out.trans t11)
                  have R11h := Lib.hid R11
                  have hs11 := t11.size
                  have O11 := Lib.hid o11
                  rw [hll]
                  rw [hll] at O11
                  clear t11 R11 o11 hll GR
                  go_wp2_with fail
                  refine wp_region_held_drew (S := (fun _ : World => True)) (by kernel_rfl) trivial (fun hS => ?_)
                  refine wpAnyH_take (i := 0) (oi := ⟨some 58, _, _, _, _, _⟩) (v := .int .i64 (ma : Int)) rfl (by kernel_rfl) (by kernel_rfl) (by kernel_rfl) (fun _ _ _ h => h) (Or.inl ⟨by rfl, fun W hW => by go_simp⟩) hS ?_
                  try simp only [Act.put, List.setIfInBounds_toArray, List.set_cons_zero, List.set_cons_succ]
                  refine wpAnyH_take (i := 2) (oi := ⟨some 60, _, _, _, _, _⟩) (v := .int .i64 (md : Int)) rfl (by kernel_rfl) (by kernel_rfl) (by kernel_rfl) (fun _ _ _ h => h) (Or.inl ⟨by rfl, fun W hW => by go_simp⟩) hS ?_
                  try simp only [Act.put, List.setIfInBounds_toArray, List.set_cons_zero, List.set_cons_succ]
                  refine wpAnyH_ready (rs := [1, 3]) (by kernel_rfl) (by simp) ?_
                  refine AllReadyH.cons rfl (fun K hK => ?_) (AllReadyH.cons rfl (fun K hK => ?_) AllReadyH.nil)
                  case' refine_1 =>
                    refine step_of_list (by simp [Region.wanted]) fun Q9 hn9 => ?_
                    refine wpList_make_ints _ rfl _ _ _ rfl elem8 ma ma rfl rfl rfl rfl (Nat.le_refl _) (by omega) ?_
                    intro w12 o12 b12 l12
                    refine hn9 _ _ ?_
                    clear hn9 Q9
                    change K (Act.put _ (some 59) _) _
                    refine hK.out _ _ trivial (fun hS => ?_)
                    clear hK K
                    try simp only [Act.put, List.setIfInBounds_toArray, List.set_cons_zero, List.set_cons_succ]
                    refine wpAnyH_take (i := 4) (oi := ⟨some 12, _, _, _, _, _⟩) (v := .slice (some ⟨w11.heap.size, 0, none⟩) ma ma) rfl (by kernel_rfl) (by kernel_rfl) (by kernel_rfl) (fun _ _ _ h => h) (Or.inl ⟨by rfl, fun W hW => by go_simp⟩) hS ?_
                    try simp only [Act.put, List.setIfInBounds_toArray, List.set_cons_zero, List.set_cons_succ]
                    refine wpAnyH_ready (rs := [3]) (by kernel_rfl) (by simp) ?_
                    refine AllReadyH.cons rfl (fun K hK => ?_) AllReadyH.nil
                    refine step_of_list (by simp [Region.wanted]) fun Q9 hn9 => ?_
                    refine wpList_make_ints _ rfl _ _ _ rfl elem8 md md rfl rfl rfl rfl (Nat.le_refl _) (by omega) ?_
                    intro w13 o13 b13 l13
                    refine hn9 _ _ ?_
                    clear hn9 Q9
                    change K (Act.put _ (some 61) _) _
                    refine hK.out _ _ trivial (fun hS => ?_)
                    clear hK K
                    try simp only [Act.put, List.setIfInBounds_toArray, List.set_cons_zero, List.set_cons_succ]
                    refine wpAnyH_take (i := 5) (oi := ⟨some 13, _, _, _, _, _⟩) (v := .slice (some ⟨w12.heap.size, 0, none⟩) md md) rfl (by kernel_rfl) (by kernel_rfl) (by kernel_rfl) (fun _ _ _ h => h) (Or.inl ⟨by rfl, fun W hW => by go_simp⟩) hS ?_
                    try simp only [Act.put, List.setIfInBounds_toArray, List.set_cons_zero, List.set_cons_succ]
                    refine wpAnyH_done (by kernel_rfl) ?_ _
                    have hs12 : w11.heap.size < w12.heap.size := l12
                    have hs13 : w12.heap.size < w13.heap.size := l13
                    have bw1 : Below w11.heap.size w11 w12 := ⟨b12.os, b12.tape, b12.output, b12.size, b12.block⟩
                    have o1' := (show Own w12 w11.heap.size 5 .u8 (.slice (some ⟨w11.heap.size, 0, none⟩) ma ma) (List.replicate ma 0) from o12).below b13
                    have o2' := o13.mono (Nat.le_of_lt hs12)
                    have bw2 := bw1.trans (b13.mono (Nat.le_of_lt hs12))
                    obtain ⟨ga, hga⟩ : ∃ ga, w11.heap.size = ga := ⟨_, rfl⟩
                    obtain ⟨gb, hgb⟩ : ∃ gb, w12.heap.size = gb := ⟨_, rfl⟩
                    have hne : ga ≠ gb := by omega
                    rw [show Value.slice (some ⟨w11.heap.size, 0, none⟩) ma ma = Value.slice (some ⟨ga, 0, none⟩) ma ma by rw [hga]] at o1'
                    rw [hgb] at o2'
                    rw [show Value.slice (some ⟨w11.heap.size, 0, none⟩) ma ma = Value.slice (some ⟨ga, 0, none⟩) ma ma by rw [hga], hgb]
                    have OA := Lib.hid o1'
                    have OB := Lib.hid o2'
                    have BN := Lib.hid bw2
                    clear hga hgb o12 o13 o1' o2' b12 b13 bw1 bw2 l12 l13
                  case' refine_2 =>
                    refine step_of_list (by simp [Region.wanted]) fun Q9 hn9 => ?_
                    refine wpList_make_ints _ rfl _ _ _ rfl elem8 md md rfl rfl rfl rfl (Nat.le_refl _) (by omega) ?_
                    intro w12 o12 b12 l12
                    refine hn9 _ _ ?_
                    clear hn9 Q9
                    change K (Act.put _ (some 61) _) _
                    refine hK.out _ _ trivial (fun hS => ?_)
                    clear hK K
                    try simp only [Act.put, List.setIfInBounds_toArray, List.set_cons_zero, List.set_cons_succ]
                    refine wpAnyH_ready (rs := [1]) (by kernel_rfl) (by simp) ?_
                    refine AllReadyH.cons rfl (fun K hK => ?_) AllReadyH.nil
                    refine step_of_list (by simp [Region.wanted]) fun Q9 hn9 => ?_
                    refine wpList_make_ints _ rfl _ _ _ rfl elem8 ma ma rfl rfl rfl rfl (Nat.le_refl _) (by omega) ?_
                    intro w13 o13 b13 l13
                    refine hn9 _ _ ?_
                    clear hn9 Q9
                    change K (Act.put _ (some 59) _) _
                    refine hK.out _ _ trivial (fun hS => ?_)
                    clear hK K
                    try simp only [Act.put, List.setIfInBounds_toArray, List.set_cons_zero, List.set_cons_succ]
                    refine wpAnyH_take (i := 4) (oi := ⟨some 12, _, _, _, _, _⟩) (v := .slice (some ⟨w12.heap.size, 0, none⟩) ma ma) rfl (by kernel_rfl) (by kernel_rfl) (by kernel_rfl) (fun _ _ _ h => h) (Or.inl ⟨by rfl, fun W hW => by go_simp⟩) hS ?_
                    try simp only [Act.put, List.setIfInBounds_toArray, List.set_cons_zero, List.set_cons_succ]
                    refine wpAnyH_take (i := 5) (oi := ⟨some 13, _, _, _, _, _⟩) (v := .slice (some ⟨w11.heap.size, 0, none⟩) md md) rfl (by kernel_rfl) (by kernel_rfl) (by kernel_rfl) (fun _ _ _ h => h) (Or.inl ⟨by rfl, fun W hW => by go_simp⟩) hS ?_
                    try simp only [Act.put, List.setIfInBounds_toArray, List.set_cons_zero, List.set_cons_succ]
                    refine wpAnyH_done (by kernel_rfl) ?_ _
                    have hs12 : w11.heap.size < w12.heap.size := l12
                    have hs13 : w12.heap.size < w13.heap.size := l13
                    have bw1 : Below w11.heap.size w11 w12 := ⟨b12.os, b12.tape, b12.output, b12.size, b12.block⟩
                    have o1' := (show Own w12 w11.heap.size 5 .u8 (.slice (some ⟨w11.heap.size, 0, none⟩) md md) (List.replicate md 0) from o12).below b13
                    have o2' := o13.mono (Nat.le_of_lt hs12)
                    have bw2 := bw1.trans (b13.mono (Nat.le_of_lt hs12))
                    obtain ⟨ga, hga⟩ : ∃ ga, w12.heap.size = ga := ⟨_, rfl⟩
                    obtain ⟨gb, hgb⟩ : ∃ gb, w11.heap.size = gb := ⟨_, rfl⟩
                    have hne : ga ≠ gb := by omega
                    rw [show Value.slice (some ⟨w11.heap.size, 0, none⟩) md md = Value.slice (some ⟨gb, 0, none⟩) md md by rw [hgb]] at o1'
                    rw [hga] at o2'
                    rw [show Value.slice (some ⟨w11.heap.size, 0, none⟩) md md = Value.slice (some ⟨gb, 0, none⟩) md md by rw [hgb], hga]
                    have OA := Lib.hid o2'
                    have OB := Lib.hid o1'
                    have BN := Lib.hid bw2
                    clear hga hgb o12 o13 o1' o2' b12 b13 bw1 bw2 l12 l13
                  all_goals
                    have hta1 : (l.take ma).length = ma := by rw [List.length_take, HLL.out]; omega
                    have htd1 : (l.drop ma).length = md := by rw [List.length_drop, HLL.out]; omega
                    have HTA := Lib.hid hta1
                    have HTD := Lib.hid htd1
                    clear hta1 htd1
                    have hrl0 : Holds w11 w11.heap.size .u8 A11 l := by obtain ⟨_, _, e, _, _, h⟩ := own_open O11.out; exact h
                    have hrl := hrl0.below BN.out
                    have hcap : ma + md ≤ c11 := by obtain ⟨_, _, e, h1, _, _⟩ := own_open O11.out; injection e with e1 e2 e3; rw [e3, ← HLL.out]; exact h1
                    have dcap : decide (c11 = ma) = false := decide_eq_false (by omega)
                    have hncap : ¬ c11 = ma := by omega
                    have oa := OA.out
                    have ob := OB.out
                    have hBb : w11.heap.size ≤ w13.heap.size := BN.out.size
                    have HRL := Lib.hid hrl
                    have hf := holds_from8 (q := ma) hrl (by rw [HLL.out]; exact hcap)
                    rw [if_neg hncap] at hf
                    have HFH := Lib.hid hf
                    clear hrl hrl0 hf hncap
                    go_upto_region 17 with (first
                      | (have _t := oa; refine wpList_copy_over rfl (.tmp 62) (.tmp 63) 27 rfl elem8 oa (by simp; omega) rfl (ys := l) (by rw [HLL.out]; rfl) HRL.out (by rw [HLL.out, List.length_replicate]; omega) hBb ?_; clear _t oa; intro w14 oa2 ga2 ba2; rw [List.length_replicate] at oa2; have ob2 := ob.kept ga2 (.inr (by intro he; injection he with he; exact hne he.symm)); have hsz14 := ba2.size; have HF2 := Lib.hid (HFH.out.below ba2); have OA2 := Lib.hid oa2; have BA2 := Lib.hid (BN.out.trans ba2); clear ob ba2 ga2 oa2)
                      | (have _t := ob2; refine wpList_copy_ints _ rfl (.tmp 65) (.tmp 68) 27 rfl elem8 ob2 rfl (ys := l.drop ma) (by rw [HTD.out]; rfl) HF2.out (by rw [HTD.out, List.length_replicate]; omega) (Nat.le_trans hBb hsz14) ?_; clear _t ob2; intro w15 ob3 gb3 bb3; have OB3 := Lib.hid ob3; have OA3 := Lib.hid (OA2.out.kept gb3 (.inr (by intro he; injection he with he; exact hne he))); have B15 := Lib.hid (BA2.out.trans bb3); clear ob3 gb3 bb3))
                    have R15 := Lib.hid (R11h.out.below B15.out)
                    have T15 := Lib.hid (T11.out.trans (TurnsIn.ofNew B15.out))
                    have hNw : w.heap.size ≤ w11.heap.size := T11.out.size
                    obtain ⟨_, _, ea, ha1, ha2, ha3⟩ := own_open OA3.out
                    obtain ⟨_, _, eb, hb1, hb2, hb3⟩ := own_open OB3.out
                    have ga0 := may_any (some ⟨ga, 0, none⟩) (l.take ma) ma w15 (HLO.out.head _) (by rw [HTA.out]; exact Nat.le_refl _) (by unfold maxLen; omega) ha3
                    have gb0 := may_any (some ⟨gb, 0, none⟩) (l.drop ma) md w15 (HLO.out.tail _) (by rw [HTD.out]; exact Nat.le_refl _) (by unfold maxLen; omega) (by
                      have : l.drop ma ++ (List.replicate md (0 : Int)).drop (l.drop ma).length = l.drop ma := by rw [HTD.out]; simp
                      rw [this] at hb3
                      exact hb3)
                    rw [HTA.out] at ga0
                    rw [HTD.out] at gb0
                    have OB4 : Hid (Own w15 w11.heap.size 5 .u8 (.slice (some ⟨gb, 0, none⟩) md md) (l.drop ma)) := Lib.hid (by
                      have : l.drop ma ++ (List.replicate md (0 : Int)).drop (l.drop ma).length = l.drop ma := by rw [HTD.out]; simp
                      have h := OB3.out
                      rw [this] at h
                      exact h)
                    obtain ⟨y1, hy1⟩ : ∃ y, mayB (l.take ma) = y := ⟨_, rfl⟩
                    obtain ⟨y2, hy2⟩ : ∃ y, mayB (l.drop ma) = y := ⟨_, rfl⟩
                    rw [hy1] at ga0
                    rw [hy2] at gb0
                    have HE4 := HE3.out
                    rw [hy1, hy2] at HE4
                    have HE5 := Lib.hid HE4
                    have GA := Lib.hid ga0
                    have GB := Lib.hid gb0
                    clear HE3 HE4 hy1 hy2 ga0 gb0 ea ha1 ha2 ha3 eb hb1 hb2 hb3
                    cases y1 with
                    | false =>
                      have HE6 := Lib.hid (show r = .bad 11 from HE5.out)
                      go_wp2_with fail
                      refine GA.out.mono ?_
                      rintro e w16 ⟨rfl, rfl⟩
                      go_wp2_with fail
                      refine (GY.out _).mono ?_
                      rintro e w16 ⟨rfl, rfl⟩
                      go_wp2_with fail
                      exact ⟨rfl, DynTo.bad HE6.out T15.out R15.out⟩
                    | true =>
                      cases y2 with
                      | false =>
                        have HE6 := Lib.hid (show r = .bad 11 from HE5.out)
                        go_wp2_with fail
                        refine GA.out.mono ?_
                        rintro e w16 ⟨rfl, rfl⟩
                        go_wp2_with fail
                        refine GB.out.mono ?_
                        rintro e w16 ⟨rfl, rfl⟩
                        go_wp2_with fail
                        refine (GY.out _).mono ?_
                        rintro e w16 ⟨rfl, rfl⟩
                        go_wp2_with fail
                        exact ⟨rfl, DynTo.bad HE6.out T15.out R15.out⟩
                      | true =>
                        have HE6 := Lib.hid (show r = .ok (l.take ma, l.drop ma) q11 from HE5.out)
                        go_wp2_with fail
                        refine GA.out.mono ?_
                        rintro e w16 ⟨rfl, rfl⟩
                        go_wp2_with fail
                        refine GB.out.mono ?_
                        rintro e w16 ⟨rfl, rfl⟩
                        go_wp2_with fail
                        refine (GN.out _).mono ?_
                        rintro e w16 ⟨rfl, hw16⟩
                        have hw16' := hw16.symm
                        clear hw16
                        subst hw16'
                        go_wp2_with fail
                        go_ret2
                        rw [HE6.out]
                        refine ⟨T15.out, R15.out, ga, gb, ?_, ?_, ?_⟩
                        · simp only [HTA.out, HTD.out]
                          rfl
                        · simp only [HTA.out]
                          exact OA3.out.mono hNw
                        · simp only [HTD.out]
                          exact OB4.out.mono hNw
        · have HE := Lib.hid (HR3.out.trans (dyn3_no hc _ _))
          have hor : (if decide (286 < a + 257) = true then true else decide (30 < d + 1)) = true := by
            by_cases h : 286 < a + 257
            · rw [if_pos (decide_eq_true h)]
            · rw [if_neg (by rw [decide_eq_true_eq]; exact h)]
              exact decide_eq_true (by omega)
          by_cases ca : 286 < a + 257
          · have d1 : decide (286 < a + 257) = true := decide_eq_true ca
            clear hc hor ca
            go_wp2_with fail
            refine (GY.out _).mono ?_
            rintro e w9 ⟨rfl, rfl⟩
            go_wp2_with fail
            exact ⟨rfl, DynTo.bad HE.out T3.out R3h.out⟩
          · have d1 : decide (286 < a + 257) = false := decide_eq_false ca
            have d2 : decide (30 < d + 1) = true := decide_eq_true (by omega)
            clear hc hor ca
            go_wp2_with fail
            refine (GY.out _).mono ?_
            rintro e w9 ⟨rfl, rfl⟩
            go_wp2_with fail
            exact ⟨rfl, DynTo.bad HE.out T3.out R3h.out⟩
      · have GM := Lib.hid (number_no 4 w2 HP2.out R2h.out hob hbl (by omega) hq3)
        have HE := Lib.hid (HR2.out.trans (bindG_miss _ (numG_no hq3)))
        clear hq3
        go_wp2_with fail
        refine GM.out.mono ?_
        rintro e w9 ⟨t9, rfl, R9⟩
        go_wp2_with fail
        exact ⟨rfl, DynTo.miss HE.out (T2.out.trans t9) R9⟩
    · have GM := Lib.hid (number_no 5 w1 HP1.out R1h.out hob hbl (by omega) hq2)
      have HE := Lib.hid (HR1.out.trans (bindG_miss _ (numG_no hq2)))
      clear hq2
      go_wp2_with fail
      refine GM.out.mono ?_
      rintro e w9 ⟨t9, rfl, R9⟩
      go_wp2_with fail
      exact ⟨rfl, DynTo.miss HE.out (T1.out.trans t9) R9⟩
  · have GM := Lib.hid (number_no 5 w HP.out R hob hbl (by omega) hq1)
    have HE := Lib.hid (HR.out.trans (bindG_miss _ (numG_no hq1)))
    clear hq1
    go_enter Tryd.func101, Tryd.ntmps101
    go_wp2_with fail
    refine GM.out.mono ?_
    rintro e w9 ⟨t9, rfl, R9⟩
    go_wp2_with fail
    exact ⟨rfl, DynTo.miss HE.out (t9) R9⟩
end Go.Proofs.YthmkeflkhocobaaDoor.Inf

namespace Go.Proofs.YthmkeflkhocobaaDoor.Inf
open Go.ChangeShapes Go.WideShapes Go.ChangeAt Go.RowKit Go.Proofs.YthmkeflkhocobaaDoor.Kit Go.Proofs.YthmkeflkhocobaaDoor.Bits Go.Proofs.YthmkeflkhocobaaDoor.Huf Go.Proofs.YthmkeflkhocobaaDoor.Df

/-- What stays while a text is read. -/
structure Cx where
  B : Nat
  B' : Nat
  x : Nat
  gp : Nat
  g : Nat
  most : Int
  vr : Value
  skip : Int
  err : Int
  v : Value
  bs : List Int
def icOf (X : Cx) (st : St) (vs vd : Value) : Ic := ⟨X.most, X.vr, X.skip, st.ph, st.last, st.left, vs, vd, X.err⟩
def capV : Value → Nat
  | .slice _ _ c => c
  | _ => 0
def TabsAt (w : World) (st : St) (u1 u2 : Value) : Prop := st.ph = 2 → u1 = .pointer none ∨ ∃ gt vt gd vd B1 B2, u1 = .pointer (some ⟨gt, 0, none⟩) ∧ u2 = .pointer (some ⟨gd, 0, none⟩) ∧ Tb w B1 gt vt st.ls 15 (syms st.ls 15) ∧ Tb w B2 gd vd st.ds 15 (syms st.ds 15)
/-- An inflater at work. -/
structure InAt (w : World) (X : Cx) (st : St) (vs vd : Value) (A : Option Addr) (c p : Nat) (u1 u2 : Value) : Prop where
  ia : IAt w X.B X.x (icOf X st vs vd) st.out A c
  os : Own w X.B 5 .u8 vs st.ls
  od : Own w X.B 5 .u8 vd st.ds
  hp : Block w X.gp 136 #[.pointer (some ⟨X.g, 0, none⟩), u1, u2]
  rd : Rd w X.B' X.g X.v X.bs p
  tb : TabsAt w st u1 u2
  ap : ∀ b, (Value.slice A st.out.length c).ownBlock = some b → X.v.ownBlock ≠ some b ∧ vs.ownBlock ≠ some b ∧ vd.ownBlock ≠ some b
  cp : capV vs ≤ 288 ∧ capV vd ≤ 32
theorem Tb.turn {S : Nat → Prop} {w w' : World} {B g : Nat} {v : Value} {l ss : List Int} {n : Nat} (h : Tb w B g v l n ss) (t : TurnsIn S w w') (hS : ∀ b ty cs, Block w b ty cs → S b → ty ≠ 184 ∧ ty ≠ 110) : Tb w' B g v l n ss :=
  h.out t (fun hg => (hS g _ _ h.blk hg).1 rfl) (fun b hb he => by
    rcases h.own.2 with ⟨e, _⟩ | ⟨g', cap, cur, e, _, hh, _⟩
    · rw [e] at hb; cases hb
    · rw [e] at hb
      have : g' = b := Option.some.inj hb
      subst this
      exact (hS g' _ _ hh he).2 rfl)
theorem TabsAt.turn {S : Nat → Prop} {w w' : World} {st : St} {u1 u2 : Value} (h : TabsAt w st u1 u2) (t : TurnsIn S w w') (hS : ∀ b ty cs, Block w b ty cs → S b → ty ≠ 184 ∧ ty ≠ 110) : TabsAt w' st u1 u2 := fun e => by
  rcases h e with h | ⟨gt, vt, gd, vd, B1, B2, h1, h2, h3, h4⟩
  · exact .inl h
  · exact .inr ⟨gt, vt, gd, vd, B1, B2, h1, h2, Tb.turn h3 t hS, Tb.turn h4 t hS⟩
theorem block_ty {w : World} {b : Nat} {t u : TypeId} {cs ds : Array Value} (h : Block w b t cs) (h' : Block w b u ds) : t = u := by
  unfold Block at h h'
  rw [h] at h'
  injection h' with h'
  injection h' with _ h2
/-- The reader went on. -/
theorem InAt.read {w w' : World} {X : Cx} {st : St} {vs vd : Value} {A : Option Addr} {c p q : Nat} {u1 u2 : Value} (h : InAt w X st vs vd A c p u1 u2) (t : TurnsIn (· = X.g) w w') (R : Rd w' X.B' X.g X.v X.bs q) : InAt w' X st vs vd A c q u1 u2 := by
  have hb := h.rd.blk
  refine ⟨h.ia.far t (Block.ne_of h.ia.blk hb (by decide)) (fun b hb2 he => h.ia.own.ne_block hb (by decide) (by rw [hb2, he])), h.os.out t (fun b hb2 he => h.os.ne_block hb (by decide) (by rw [hb2, he])), h.od.out t (fun b hb2 he => h.od.ne_block hb (by decide) (by rw [hb2, he])), h.hp.out t (Block.ne_of h.hp hb (by decide)), R, h.tb.turn t (fun b ty cs h1 h2 => ?_), h.ap, h.cp⟩
  subst h2
  have := block_ty h1 hb
  subst this
  exact ⟨by decide, by decide⟩
theorem InAt.below {w w' : World} {X : Cx} {st : St} {vs vd : Value} {A : Option Addr} {c p : Nat} {u1 u2 : Value} (h : InAt w X st vs vd A c p u1 u2) (b : Below w.heap.size w w') : InAt w' X st vs vd A c p u1 u2 :=
  ⟨h.ia.far (TurnsIn.ofNew (S := fun _ => False) b) (fun h => h) (fun _ _ h => h), h.os.below b, h.od.below b, h.hp.below b h.hp.lt, h.rd.below b, h.tb.turn (TurnsIn.ofNew (S := fun _ => False) b) (fun _ _ _ _ h => h.elim), h.ap, h.cp⟩
/-- More was told. -/
theorem InAt.told {w w' : World} {X : Cx} {st : St} {ys : List Int} {vs vd : Value} {A A' : Option Addr} {c c' p : Nat} {u1 u2 : Value} (h : InAt w X st vs vd A c p u1 u2) (t : TurnsIn (fun b => b = X.x ∨ (Value.slice A st.out.length c).ownBlock = some b) w w')
    (i : IAt w' X.B X.x (icOf X st vs vd) ys A' c') (n : Newer w (.slice A st.out.length c) (.slice A' ys.length c')) : InAt w' X { st with out := ys } vs vd A' c' p u1 u2 := by
  have hx := h.ia.blk
  have ty : ∀ b ty cs, Block w b ty cs → (b = X.x ∨ (Value.slice A st.out.length c).ownBlock = some b) → ty = 81 ∨ ty = 5 := by
    intro b ty cs h1 h2
    rcases h2 with h2 | h2
    · subst h2
      exact .inl (block_ty h1 hx)
    · rcases h.ia.own.2 with ⟨e, _⟩ | ⟨g', cap, cur, e, _, hh, _⟩
      · rw [e] at h2; cases h2
      · rw [e] at h2
        have : g' = b := Option.some.inj h2
        subst this
        exact .inr (block_ty h1 hh)
  have keep : ∀ {B1 : Nat} {o : Value} {xs : List Int}, Own w B1 5 .u8 o xs → (∀ b, (Value.slice A st.out.length c).ownBlock = some b → o.ownBlock ≠ some b) → Own w' B1 5 .u8 o xs := fun ho hne => ho.out t (fun b hb he => by
    rcases he with he | he
    · exact ho.ne_block hx (by decide) (by rw [hb, he])
    · exact hne b he hb)
  have apart : ∀ {o : Value} {B1 : Nat} {xs : List Int}, Own w B1 5 .u8 o xs → (∀ b, (Value.slice A st.out.length c).ownBlock = some b → o.ownBlock ≠ some b) → ∀ b, (Value.slice A' ys.length c').ownBlock = some b → o.ownBlock ≠ some b := by
    intro o B1 xs ho hne b hb hob
    rcases n with n | n
    · rw [n] at hb
      exact hne b hb hob
    · have := n b hb
      have := (ho.lt b hob).2
      omega
  refine ⟨i, keep h.os (fun b hb => (h.ap b hb).2.1), keep h.od (fun b hb => (h.ap b hb).2.2), h.hp.out t (fun he => ?_), ⟨h.rd.blk.out t (fun he => ?_), keep h.rd.own (fun b hb => (h.ap b hb).1), h.rd.le⟩, ?_, fun b hb => ⟨apart h.rd.own (fun b hb => (h.ap b hb).1) b hb, apart h.os (fun b hb => (h.ap b hb).2.1) b hb, apart h.od (fun b hb => (h.ap b hb).2.2) b hb⟩, h.cp⟩
  · rcases ty _ _ _ h.hp he with e | e <;> exact absurd e (by decide)
  · rcases ty _ _ _ h.rd.blk he with e | e <;> exact absurd e (by decide)
  · intro e
    rcases h.tb e with h1 | ⟨gt, vt, gd, vd', B1, B2, h1, h2, h3, h4⟩
    · exact .inl h1
    · refine .inr ⟨gt, vt, gd, vd', B1, B2, h1, h2, Tb.turn h3 t (fun b ty' cs k1 k2 => ?_), Tb.turn h4 t (fun b ty' cs k1 k2 => ?_)⟩
      · rcases ty _ _ _ k1 k2 with e | e <;> subst e <;> exact ⟨by decide, by decide⟩
      · rcases ty _ _ _ k1 k2 with e | e <;> subst e <;> exact ⟨by decide, by decide⟩
/-- What a step leaves. -/
def StepTo (X : Cx) (st : St) (vs vd : Value) (A : Option Addr) (c : Nat) (r : Res St) (w : World) (e : Ending) (w' : World) : Prop :=
  TurnsIn (fun b => b = X.g ∨ b = X.x ∨ b = X.gp ∨ (Value.slice A st.out.length c).ownBlock = some b) w w' ∧ match r with
  | .miss => e = missingE ∧ ∃ q u1 u2, InAt w' X st vs vd A c q u1 u2
  | .bad why => e = brokenE why ∧ ∃ q u1 u2, InAt w' X st vs vd A c q u1 u2
  | .ok st' q => e = .returned (.tuple #[]) ∧ ∃ vs' vd' A' c' u1 u2, InAt w' X st' vs' vd' A' c' q u1 u2 ∧ Newer w (.slice A st.out.length c) (.slice A' st'.out.length c') ∧ Newer w vs vs' ∧ Newer w vd vd'
theorem StepTo.miss {X : Cx} {st : St} {vs vd : Value} {A : Option Addr} {c q : Nat} {r : Res St} {w w' : World} {u1 u2 : Value} (h : r = .miss) (t : TurnsIn (fun b => b = X.g ∨ b = X.x ∨ b = X.gp ∨ (Value.slice A st.out.length c).ownBlock = some b) w w') (i : InAt w' X st vs vd A c q u1 u2) : StepTo X st vs vd A c r w (.panicked [{ v := .iface 130 (.agg #[]), recovered := false }]) w' := by
  subst h
  exact ⟨t, rfl, q, u1, u2, i⟩
theorem StepTo.bad {X : Cx} {st : St} {vs vd : Value} {A : Option Addr} {c q : Nat} {r : Res St} {w w' : World} {u1 u2 : Value} {why : Int} (h : r = .bad why) (t : TurnsIn (fun b => b = X.g ∨ b = X.x ∨ b = X.gp ∨ (Value.slice A st.out.length c).ownBlock = some b) w w') (i : InAt w' X st vs vd A c q u1 u2) : StepTo X st vs vd A c r w (.panicked [{ v := .iface 132 (.agg #[.int .i64 why]), recovered := false }]) w' := by
  subst h
  exact ⟨t, rfl, q, u1, u2, i⟩
theorem full_yes (B x : Nat) (k : Ic) (xs : List Int) (A : Option Addr) (c n : Nat) (w : World) (h : IAt w B x k xs A c) (hn : n ≤ 100000) (hk : ((xs.length + n : Nat) : Int) ≤ k.most) :
    Calls Tryd.prog 99 #[.pointer (some ⟨x, 0, none⟩), .int .i64 (n : Int)] w fun e w' => e = .returned (.tuple #[]) ∧ TurnsIn (fun _ => False) w w' := by
  refine (full_any B x k xs A c n w h hn).mono ?_
  rintro e w' ⟨t, h2⟩
  rw [if_pos hk] at h2
  exact ⟨h2, t⟩
theorem full_no (B x : Nat) (k : Ic) (xs : List Int) (A : Option Addr) (c n : Nat) (w : World) (h : IAt w B x k xs A c) (hn : n ≤ 100000) (hk : ¬ ((xs.length + n : Nat) : Int) ≤ k.most) :
    Calls Tryd.prog 99 #[.pointer (some ⟨x, 0, none⟩), .int .i64 (n : Int)] w fun e w' => e = .panicked [{ v := .iface 132 (.agg #[.int .i64 12]), recovered := false }] ∧ TurnsIn (fun _ => False) w w' := by
  refine (full_any B x k xs A c n w h hn).mono ?_
  rintro e w' ⟨t, h2⟩
  rw [if_neg hk] at h2
  exact ⟨h2, t⟩
theorem InAt.quiet {w w' : World} {X : Cx} {st : St} {vs vd : Value} {A : Option Addr} {c p : Nat} {u1 u2 : Value} (h : InAt w X st vs vd A c p u1 u2) (t : TurnsIn (fun _ => False) w w') : InAt w' X st vs vd A c p u1 u2 :=
  h.below (t.toBelow (Nat.le_refl _) (fun _ _ h => h))
theorem sym_cases {B g gp gt B' : Nat} {v u1 u2 vt : Value} {bs l : List Int} {p : Nat} {w : World} (hp : Block w gp 136 #[.pointer (some ⟨g, 0, none⟩), u1, u2]) (hl : l.length ≤ 300) (hM : mayB l = true) (ho : Octets l) (R : Rd w B g v bs p) (hob : Octets bs) (hbl : bs.length ≤ 1000000) (tb : Tb w B' gt vt l 15 (syms l 15)) :
    (∃ s n, told l ((bitsOf bs).drop p) = .sym s n ∧ Calls Tryd.prog 106 #[.pointer (some ⟨gp, 0, none⟩), .pointer (some ⟨gt, 0, none⟩)] w fun e w' => e = .returned (.int .i64 s) ∧ TurnsIn (· = g) w w' ∧ Rd w' B g v bs (p + n)) ∨
    (symG l (bitsOf bs) p = .miss ∧ Calls Tryd.prog 106 #[.pointer (some ⟨gp, 0, none⟩), .pointer (some ⟨gt, 0, none⟩)] w fun e w' => e = .panicked [{ v := .iface 130 (.agg #[]), recovered := false }] ∧ TurnsIn (· = g) w w' ∧ Rd w' B g v bs p) ∨
    (symG l (bitsOf bs) p = .bad 11 ∧ Calls Tryd.prog 106 #[.pointer (some ⟨gp, 0, none⟩), .pointer (some ⟨gt, 0, none⟩)] w fun e w' => e = .panicked [{ v := .iface 132 (.agg #[.int .i64 11]), recovered := false }] ∧ TurnsIn (· = g) w w' ∧ Rd w' B g v bs p) := by
  have G := symbol_any B g gp gt B' v u1 u2 vt bs l p w hp hl hM ho R hob hbl tb
  rw [symG_eq]
  cases ht : told l ((bitsOf bs).drop p) with
  | sym s n =>
    refine .inl ⟨s, n, rfl, G.mono ?_⟩
    rintro e w' ⟨t, h⟩
    rw [ht] at h
    exact ⟨h.1, t, h.2⟩
  | short =>
    refine .inr (.inl ⟨rfl, G.mono ?_⟩)
    rintro e w' ⟨t, h⟩
    rw [ht] at h
    exact ⟨h.1, t, h.2⟩
  | form =>
    refine .inr (.inr ⟨rfl, G.mono ?_⟩)
    rintro e w' ⟨t, h⟩
    rw [ht] at h
    exact ⟨h.1, t, h.2⟩

theorem bind_assoc_at {α β γ : Type} (g : G α) (f : α → G β) (h : β → G γ) (b : List Int) (p : Nat) : bindG (bindG g f) h b p = bindG g (fun a => bindG (f a) h) b p := by
  cases hg : g b p with
  | miss => rw [bindG_miss _ (bindG_miss _ hg), bindG_miss _ hg]
  | bad e => rw [bindG_bad _ (bindG_bad _ hg), bindG_bad _ hg]
  | ok x q =>
    rw [bindG_ok _ hg]
    cases hf : f x b q with
    | miss => rw [bindG_miss _ hf, bindG_miss]; rw [bindG_ok _ hg, hf]
    | bad e => rw [bindG_bad _ hf, bindG_bad]; rw [bindG_ok _ hg, hf]
    | ok y r => rw [bindG_ok _ hf, bindG_ok (q := r) (a := y)]; rw [bindG_ok _ hg, hf]
theorem bind_assoc {α β γ : Type} (g : G α) (f : α → G β) (h : β → G γ) : bindG (bindG g f) h = bindG g (fun a => bindG (f a) h) := by
  funext b p
  exact bind_assoc_at g f h b p
theorem pure_bind {α β : Type} (a : α) (f : α → G β) : bindG (pureG a) f = f a := rfl
theorem ref_no_bind {β : Type} (why : Int) (f : Unit → G β) : bindG (refG false why) f = f () := rfl

set_option maxRecDepth 100000 in
set_option maxHeartbeats 12800000 in
theorem match_any (X : Cx) (st : St) (vs vd : Value) (A : Option Addr) (c p : Nat) (u1 : Value) (gd B2 : Nat) (vt : Value) (s : Int) (w : World) (h : InAt w X st vs vd A c p u1 (.pointer (some ⟨gd, 0, none⟩))) (hs : SOk X.most st p) (h2 : st.ph = 2) (tb : Tb w B2 gd vt st.ds 15 (syms st.ds 15)) (h0 : 0 ≤ s ∧ s ≤ 300) (hob : Octets X.bs) (hbl : X.bs.length ≤ 1000000) (hB : X.B ≤ w.heap.size) (hm : X.most ≤ 1000000) :
    Calls Tryd.prog 107 #[.pointer (some ⟨X.x, 0, none⟩), .pointer (some ⟨X.gp, 0, none⟩), .int .i64 s] w (StepTo X st vs vd A c (bindG (matchG s st.ds st.out.length X.most) (fun m => pureG { st with out := rep st.out m.1.toNat m.2.toNat }) (bitsOf X.bs) p) w) := by
  have HH := Lib.hid h
  have HTB := Lib.hid tb
  have hcod := hs.codes h2
  have HC := Lib.hid hcod
  have hds : st.ds.length ≤ 300 := by have := hs.lists.2; omega
  have hol : st.out.length ≤ 1000000 := by have := hs.len; omega
  have hoc : st.out.length ≤ c := by
    obtain ⟨_, _, e, h1, _, _⟩ := own_open h.ia.own
    injection e with e1 e2 e3
    omega
  have HOC := Lib.hid hoc
  have HB := Lib.hid (bitsOf_bit X.bs)
  have hgd : ∀ (w' : World), TurnsIn (· = X.g) w w' → Tb w' B2 gd vt st.ds 15 (syms st.ds 15) := fun _ t => Tb.turn tb t (fun b ty cs k1 k2 => by
    subst k2
    have := block_ty k1 h.rd.blk
    subst this
    exact ⟨by decide, by decide⟩)
  have HGD := Lib.hid hgd
  obtain ⟨r, hr⟩ : ∃ r, bindG (matchG s st.ds st.out.length X.most) (fun m => pureG { st with out := rep st.out m.1.toNat m.2.toNat }) (bitsOf X.bs) p = r := ⟨_, rfl⟩
  rw [hr]
  have T0 := Lib.hid (fun (w' : World) (t : TurnsIn (· = X.g) w w') => t.mono (T := fun b => b = X.g ∨ b = X.x ∨ b = X.gp ∨ (Value.slice A st.out.length c).ownBlock = some b) (fun b _ hb => .inl hb))
  have HM0 := Lib.hid hr.symm
  have GN := Lib.hid (fun W => refuse_no 11 W)
  have GY := Lib.hid (fun W => refuse_yes 11 W)
  unfold brokenE at GY
  clear hr h tb hcod hs hgd hoc
  by_cases h28 : s ≤ 28
  · have d28 : decide (28 < s) = false := decide_eq_false (by omega)
    obtain ⟨n0, rfl⟩ := Int.eq_ofNat_of_zero_le h0.1
    have hml : (lmore (n0 : Int)).toNat ≤ 5 := lmore_le _ h28
    have hm0 : lmore (n0 : Int) = ((lmore (n0 : Int)).toNat : Int) := by unfold lmore; split <;> omega
    have GL := Lib.hid (fun W => length_any n0 (by omega) W)
    rw [hm0] at GL
    have hlb := lens_bd n0 (by omega)
    have HR1 : Hid (r = bindG (numG (lmore (n0 : Int)).toNat) (fun k => bindG (symG st.ds) fun d => bindG (refG (decide (29 < d)) 11) fun _ =>
        bindG (numG (dmore d).toNat) fun j => bindG (refG (decide ((st.out.length : Int) < dists.getD d.toNat 0 + j)) 11) fun _ => bindG (refG (decide (X.most < st.out.length + (lens.getD n0 0 + k))) 12) fun _ => pureG { st with out := rep st.out (lens.getD n0 0 + k).toNat (dists.getD d.toNat 0 + j).toNat }) (bitsOf X.bs) p) := Lib.hid (by
      rw [HM0.out]
      unfold matchG
      rw [d28, Int.toNat_natCast]
      simp only [bind_assoc, ref_no_bind, pure_bind])
    generalize lens.getD n0 0 = L at *
    generalize (lmore (n0 : Int)).toNat = mo at *
    have d28n : decide (28 < n0) = false := decide_eq_false (by omega)
    clear HM0 hm0
    by_cases hq1 : p + mo ≤ (bitsOf X.bs).length
    · have GM := Lib.hid (number_yes mo w HH.out.hp HH.out.rd hob hbl (by omega) hq1)
      have hv1 := val_lt (bitsOf X.bs) HB.out p mo hq1
      have hp2 : (2 : Int) ^ mo ≤ 2 ^ 5 := p2_le hml
      have HR2 := Lib.hid (HR1.out.trans (bindG_ok _ (numG_yes hq1)))
      generalize val (((bitsOf X.bs).drop p).take mo) = k1 at *
      rw [show (2 : Int) ^ 5 = 32 by decide] at hp2
      obtain ⟨n, hn⟩ : ∃ n : Nat, L + k1 = n := ⟨(L + k1).toNat, by omega⟩
      have hnw : IntKind.i64.wrap (L + k1) = (n : Int) := by rw [IntKind.wrap_i64]; omega
      rw [hn] at HR2
      have hnb : 3 ≤ n ∧ n ≤ 300 := by omega
      clear hv1 hp2 hn HR1 hq1
      go_enter Tryd.func107, Tryd.ntmps107
      go_wp2_with fail
      refine (GN.out _).mono ?_
      rintro e w5 ⟨rfl, hw5⟩
      have hw5' := hw5.symm
      clear hw5
      subst hw5'
      go_wp2_with fail
      refine (GL.out _).mono ?_
      rintro e w5 ⟨rfl, hw5⟩
      have hw5' := hw5.symm
      clear hw5
      subst hw5'
      go_wp2_with fail
      refine GM.out.mono ?_
      rintro e w6 ⟨t6, rfl, R6⟩
      have I6 := Lib.hid (HH.out.read t6 R6)
      have T6 := Lib.hid t6
      have TB6 := Lib.hid (HGD.out _ t6)
      have y2 : w6.cell? ⟨X.gp, 2, none⟩ = some (.pointer (some ⟨gd, 0, none⟩)) := I6.out.hp.cell 2
      clear t6 R6 GM GL
      rcases sym_cases I6.out.hp hds HC.out.2.2.1 HC.out.2.2.2 I6.out.rd hob hbl TB6.out with ⟨d, nd, ht, hg⟩ | ⟨hs1, hg⟩ | ⟨hs1, hg⟩
      · have HR3 := Lib.hid (HR2.out.trans (bindG_ok _ (symG_sym ht)))
        have hdr := told_lt HC.out.2.2.1 HC.out.2.2.2 (HB.out.drop _) ht
        have GS := Lib.hid hg
        clear hg ht HR2
        go_wp2_with fail
        refine GS.out.mono ?_
        rintro e w7 ⟨rfl, t7, R7⟩
        have I7 := Lib.hid (I6.out.read t7 R7)
        have T7 := Lib.hid (T6.out.trans t7)
        clear t7 R7 GS
        by_cases h29 : d ≤ 29
        · have d29 : decide (29 < d) = false := decide_eq_false (by omega)
          obtain ⟨e0, rfl⟩ := Int.eq_ofNat_of_zero_le hdr.1
          have d29n : decide (29 < e0) = false := decide_eq_false (by omega)
          have hml2 : (dmore (e0 : Int)).toNat ≤ 13 := dmore_le _ h29
          have hm2 : dmore (e0 : Int) = ((dmore (e0 : Int)).toNat : Int) := by unfold dmore; split <;> omega
          have GD := Lib.hid (fun W => distance_any e0 (by omega) W)
          rw [hm2] at GD
          have hdb := dists_bd e0 (by omega)
          have HR4 : Hid (r = bindG (numG (dmore (e0 : Int)).toNat) (fun j => bindG (refG (decide ((st.out.length : Int) < dists.getD e0 0 + j)) 11) fun _ => bindG (refG (decide (X.most < st.out.length + (n : Int))) 12) fun _ => pureG { st with out := rep st.out n (dists.getD e0 0 + j).toNat }) (bitsOf X.bs) (p + mo + nd)) := Lib.hid (by
            rw [HR3.out, d29]
            simp only [bindG_ok _ (refG_no 11 _ _), Int.toNat_natCast])
          generalize dists.getD e0 0 = Ld at *
          generalize (dmore (e0 : Int)).toNat = md at *
          clear HR3 hm2
          by_cases hq2 : p + mo + nd + md ≤ (bitsOf X.bs).length
          · have GM := Lib.hid (number_yes md w7 I7.out.hp I7.out.rd hob hbl (by omega) hq2)
            have hv1 := val_lt (bitsOf X.bs) HB.out (p + mo + nd) md hq2
            have hp2 : (2 : Int) ^ md ≤ 2 ^ 13 := p2_le hml2
            have HR5 := Lib.hid (HR4.out.trans (bindG_ok _ (numG_yes hq2)))
            generalize val (((bitsOf X.bs).drop (p + mo + nd)).take md) = k2 at *
            rw [show (2 : Int) ^ 13 = 8192 by decide] at hp2
            obtain ⟨far, hfar⟩ : ∃ far : Nat, Ld + k2 = far := ⟨(Ld + k2).toNat, by omega⟩
            have hfw : IntKind.i64.wrap (Ld + k2) = (far : Int) := by rw [IntKind.wrap_i64]; omega
            rw [hfar] at HR5
            have hfb : 1 ≤ far ∧ far ≤ 40000 := by omega
            clear hv1 hp2 hfar HR4 hq2
            go_wp2_with fail
            refine (GN.out _).mono ?_
            rintro e w5 ⟨rfl, hw5⟩
            have hw5' := hw5.symm
            clear hw5
            subst hw5'
            go_wp2_with fail
            refine (GD.out _).mono ?_
            rintro e w5 ⟨rfl, hw5⟩
            have hw5' := hw5.symm
            clear hw5
            subst hw5'
            go_wp2_with fail
            refine GM.out.mono ?_
            rintro e w8 ⟨t8, rfl, R8⟩
            have I8 := Lib.hid (I7.out.read t8 R8)
            have T8 := Lib.hid (T7.out.trans t8)
            have y1 : w8.cell? ⟨X.x, 1, none⟩ = some (.slice A st.out.length c) := I8.out.ia.blk.cell 1
            clear t8 R8 GM GD
            by_cases hfo : far ≤ st.out.length
            · have dfo : decide ((st.out.length : Int) < (far : Int)) = false := decide_eq_false (by omega)
              have dfo2 : decide (st.out.length < far) = false := decide_eq_false (by omega)
              have HR6 := Lib.hid (HR5.out.trans (show _ = bindG (refG (decide (X.most < st.out.length + (n : Int))) 12) (fun _ => pureG { st with out := rep st.out n far }) (bitsOf X.bs) (p + mo + nd + md) by rw [dfo, bindG_ok _ (refG_no 11 _ _), Int.toNat_natCast]))
              clear HR5
              by_cases hful : ((st.out.length + n : Nat) : Int) ≤ X.most
              · have HR7 := Lib.hid (HR6.out.trans (show _ = .ok { st with out := rep st.out n far } (p + mo + nd + md) by rw [decide_eq_false (by omega), bindG_ok _ (refG_no 12 _ _)]; rfl))
                have HFU := Lib.hid hful
                clear hful HR6
                go_wp2_with fail
                refine (GN.out _).mono ?_
                rintro e w5 ⟨rfl, hw5⟩
                have hw5' := hw5.symm
                clear hw5
                subst hw5'
                go_wp2_with fail
                refine (full_yes X.B X.x _ st.out A c n w8 I8.out.ia (by omega) HFU.out).mono ?_
                rintro e w9 ⟨rfl, t9⟩
                have I9 := Lib.hid (I8.out.quiet t9)
                have T9 := Lib.hid (T8.out.trans (t9.mono fun _ _ h => h.elim))
                have hB9 : X.B ≤ w9.heap.size := by have := T9.out.size; omega
                clear t9
                go_wp2_with fail
                refine (repeat_any X.B X.x _ st.out A c n far w9 hB9 I9.out.ia HFU.out (by omega) hfo).mono ?_
                rintro e w10 ⟨rfl, t10, A', c', i10, n10⟩
                have I10 := Lib.hid (I9.out.told t10 i10 n10)
                have T10 := Lib.hid t10
                have N10 := Lib.hid n10
                have hsz9 := T9.out.size
                clear t10 i10 n10
                go_wp2_with fail
                go_end0
                rw [HR7.out]
                refine ⟨(T0.out _ T9.out).then_ T10.out (fun b _ hb => ?_), rfl, vs, vd, A', c', _, _, I10.out, Newer.trans (Newer.refl _ _) hsz9 N10.out, Newer.refl _ _, Newer.refl _ _⟩
                rcases hb with hb | hb
                · exact .inr (.inl hb)
                · exact .inr (.inr (.inr hb))
              · have HE := Lib.hid (HR6.out.trans (show _ = .bad 12 by rw [decide_eq_true (by omega)]; exact bindG_bad _ (refG_yes 12 _ _)))
                have HFU := Lib.hid hful
                clear hful HR6
                go_wp2_with fail
                refine (GN.out _).mono ?_
                rintro e w5 ⟨rfl, hw5⟩
                have hw5' := hw5.symm
                clear hw5
                subst hw5'
                go_wp2_with fail
                refine (full_no X.B X.x _ st.out A c n w8 I8.out.ia (by omega) (Int.not_le.2 HFU.out)).mono ?_
                rintro e w9 ⟨rfl, t9⟩
                go_wp2_with fail
                exact ⟨rfl, StepTo.bad HE.out (T0.out _ (T8.out.trans (t9.mono fun _ _ h => h.elim))) (I8.out.quiet t9)⟩
            · have dfo : decide ((st.out.length : Int) < (far : Int)) = true := decide_eq_true (by omega)
              have dfo2 : decide (st.out.length < far) = true := decide_eq_true (by omega)
              have HE := Lib.hid (HR5.out.trans (show _ = .bad 11 by rw [dfo]; exact bindG_bad _ (refG_yes 11 _ _)))
              clear hfo HR5
              go_wp2_with fail
              refine (GY.out _).mono ?_
              rintro e w9 ⟨rfl, rfl⟩
              go_wp2_with fail
              exact ⟨rfl, StepTo.bad HE.out (T0.out _ T8.out) I8.out⟩
          · have GM := Lib.hid (number_no md w7 I7.out.hp I7.out.rd hob hbl (by omega) hq2)
            have HE := Lib.hid (HR4.out.trans (bindG_miss _ (numG_no hq2)))
            clear hq2 HR4
            go_wp2_with fail
            refine (GN.out _).mono ?_
            rintro e w5 ⟨rfl, hw5⟩
            have hw5' := hw5.symm
            clear hw5
            subst hw5'
            go_wp2_with fail
            refine (GD.out _).mono ?_
            rintro e w5 ⟨rfl, hw5⟩
            have hw5' := hw5.symm
            clear hw5
            subst hw5'
            go_wp2_with fail
            refine GM.out.mono ?_
            rintro e w8 ⟨t8, rfl, R8⟩
            go_wp2_with fail
            exact ⟨rfl, StepTo.miss HE.out (T0.out _ (T7.out.trans t8)) (I7.out.read t8 R8)⟩
        · have d29 : decide (29 < d) = true := decide_eq_true (by omega)
          have HE := Lib.hid (HR3.out.trans (show _ = .bad 11 by rw [d29]; exact bindG_bad _ (refG_yes 11 _ _)))
          clear h29 HR3
          go_wp2_with fail
          refine (GY.out _).mono ?_
          rintro e w9 ⟨rfl, rfl⟩
          go_wp2_with fail
          exact ⟨rfl, StepTo.bad HE.out (T0.out _ T7.out) I7.out⟩
      · have HE := Lib.hid (HR2.out.trans (bindG_miss _ hs1))
        have GS := Lib.hid hg
        clear hg hs1 HR2
        go_wp2_with fail
        refine GS.out.mono ?_
        rintro e w7 ⟨rfl, t7, R7⟩
        go_wp2_with fail
        exact ⟨rfl, StepTo.miss HE.out (T0.out _ (T6.out.trans t7)) (I6.out.read t7 R7)⟩
      · have HE := Lib.hid (HR2.out.trans (bindG_bad _ hs1))
        have GS := Lib.hid hg
        clear hg hs1 HR2
        go_wp2_with fail
        refine GS.out.mono ?_
        rintro e w7 ⟨rfl, t7, R7⟩
        go_wp2_with fail
        exact ⟨rfl, StepTo.bad HE.out (T0.out _ (T6.out.trans t7)) (I6.out.read t7 R7)⟩
    · have GM := Lib.hid (number_no mo w HH.out.hp HH.out.rd hob hbl (by omega) hq1)
      have HE := Lib.hid (HR1.out.trans (bindG_miss _ (numG_no hq1)))
      clear hq1 HR1
      go_enter Tryd.func107, Tryd.ntmps107
      go_wp2_with fail
      refine (GN.out _).mono ?_
      rintro e w5 ⟨rfl, hw5⟩
      have hw5' := hw5.symm
      clear hw5
      subst hw5'
      go_wp2_with fail
      refine (GL.out _).mono ?_
      rintro e w5 ⟨rfl, hw5⟩
      have hw5' := hw5.symm
      clear hw5
      subst hw5'
      go_wp2_with fail
      refine GM.out.mono ?_
      rintro e w6 ⟨t6, rfl, R6⟩
      go_wp2_with fail
      exact ⟨rfl, StepTo.miss HE.out (T0.out _ t6) (HH.out.read t6 R6)⟩
  · have d28 : decide (28 < s) = true := decide_eq_true (by omega)
    have HE : Hid (r = .bad 11) := Lib.hid (by
      rw [HM0.out]
      unfold matchG
      rw [d28]
      exact bindG_bad _ (bindG_bad _ (refG_yes 11 _ _)))
    clear h28 HM0
    go_enter Tryd.func107, Tryd.ntmps107
    go_wp2_with fail
    refine (GY.out _).mono ?_
    rintro e w5 ⟨rfl, rfl⟩
    go_wp2_with fail
    exact ⟨rfl, StepTo.bad HE.out (T0.out _ (TurnsIn.refl _ _)) HH.out⟩
end Go.Proofs.YthmkeflkhocobaaDoor.Inf

namespace Go.Proofs.YthmkeflkhocobaaDoor.Inf
open Go.ChangeShapes Go.WideShapes Go.ChangeAt Go.RowKit Go.Proofs.YthmkeflkhocobaaDoor.Kit Go.Proofs.YthmkeflkhocobaaDoor.Bits Go.Proofs.YthmkeflkhocobaaDoor.Huf Go.Proofs.YthmkeflkhocobaaDoor.Df

theorem InAt.tables {w w' : World} {X : Cx} {st : St} {vs vd : Value} {A : Option Addr} {c p : Nat} {u1 u2 u1' u2' : Value} (h : InAt w X st vs vd A c p u1 u2) (t : TurnsIn (· = X.gp) w w') (hp : Block w' X.gp 136 #[.pointer (some ⟨X.g, 0, none⟩), u1', u2']) (tb : TabsAt w' st u1' u2') : InAt w' X st vs vd A c p u1' u2' :=
  ⟨h.ia.far t (Block.ne_of h.ia.blk h.hp (by decide)) (fun b hb he => h.ia.own.ne_block h.hp (by decide) (by rw [hb, he])), h.os.out t (fun b hb he => h.os.ne_block h.hp (by decide) (by rw [hb, he])), h.od.out t (fun b hb he => h.od.ne_block h.hp (by decide) (by rw [hb, he])), hp,
    h.rd.out t (Block.ne_of h.rd.blk h.hp (by decide)) (fun b hb he => h.rd.own.ne_block h.hp (by decide) (by rw [hb, he])), tb, h.ap, h.cp⟩
theorem InAt.close {w w' : World} {X : Cx} {st : St} {vs vd : Value} {A : Option Addr} {c p : Nat} {u1 u2 : Value} (h : InAt w X st vs vd A c p u1 u2) (t : TurnsIn (· = X.x) w w') (i : IAt w' X.B X.x (icOf X st vs vd).closed st.out A c) : InAt w' X st.closed (.slice none 0 0) (.slice none 0 0) A c p u1 u2 :=
  ⟨i, Own.nil _ _ _ _, Own.nil _ _ _ _, h.hp.out t (Block.ne_of h.hp h.ia.blk (by decide)), h.rd.out t (Block.ne_of h.rd.blk h.ia.blk (by decide)) (fun b hb he => h.rd.own.ne_block h.ia.blk (by decide) (by rw [hb, he])), fun e => by
    have : st.closed.ph = 0 ∨ st.closed.ph = 3 := by
      show (if st.last then (3 : Int) else 0) = 0 ∨ (if st.last then (3 : Int) else 0) = 3
      split <;> omega
    omega, fun b hb => ⟨(h.ap b hb).1, by simp [Value.ownBlock], by simp [Value.ownBlock]⟩, by simp [capV]⟩

set_option maxRecDepth 100000 in
set_option maxHeartbeats 12800000 in
theorem step_any (X : Cx) (st : St) (vs vd : Value) (A : Option Addr) (c p : Nat) (u1 u2 : Value) (w : World) (h : InAt w X st vs vd A c p u1 u2) (hs : SOk X.most st p) (h2 : st.ph = 2) (hob : Octets X.bs) (hbl : X.bs.length ≤ 1000000) (hB : X.B ≤ w.heap.size) (hm : X.most ≤ 1000000) :
    Calls Tryd.prog 79 #[.pointer (some ⟨X.x, 0, none⟩), .pointer (some ⟨X.gp, 0, none⟩)] w (StepTo X st vs vd A c (codeG X.most st (bitsOf X.bs) p) w) := by
  have hcod := hs.codes h2
  have HC := Lib.hid hcod
  have HS := Lib.hid hs
  have HH := Lib.hid h
  have H2 := Lib.hid h2
  have hls : st.ls.length ≤ 288 := hs.lists.1
  have hds : st.ds.length ≤ 32 := hs.lists.2
  have hol : st.out.length ≤ 1000000 := by have := hs.len; omega
  have HB := Lib.hid (bitsOf_bit X.bs)
  obtain ⟨r, hr⟩ : ∃ r, codeG X.most st (bitsOf X.bs) p = r := ⟨_, rfl⟩
  rw [hr]
  have HR := Lib.hid hr.symm
  obtain ⟨Q, hQ⟩ : ∃ Q, StepTo X st vs vd A c r w = Q := ⟨_, rfl⟩
  rw [hQ]
  have HQ : Hid (∀ e w', StepTo X st vs vd A c r w e w' → Q e w') := Lib.hid (fun e w' h => by rw [← hQ]; exact h)
  clear hQ
  have T0 := Lib.hid (fun (w w' : World) (t : TurnsIn (· = X.g) w w') => t.mono (T := fun b => b = X.g ∨ b = X.x ∨ b = X.gp ∨ (Value.slice A st.out.length c).ownBlock = some b) (fun b _ hb => .inl hb))
  have htb := h.tb h2
  clear hr hcod hs h2
  rcases htb with rfl | ⟨gt, vt1, gd, vt2, B1, B2, rfl, rfl, tb1, tb2⟩
  case' inl =>
    have y1 : w.cell? ⟨X.gp, 1, none⟩ = some (.pointer none) := HH.out.hp.cell 1
    obtain ⟨As, cs, hvs, hcs, hms, hhs⟩ := HH.out.os.opened
    obtain ⟨Ad, cd, hvd, hcd, hmd, hhd⟩ := HH.out.od.opened
    have x7 : w.cell? ⟨X.x, 7, none⟩ = some (.slice As st.ls.length cs) := by rw [← hvs]; exact HH.out.ia.blk.cell 7
    have HVD := Lib.hid hvd
    clear hvs hvd
    have G1 := Lib.hid (new_yes As st.ls cs w HC.out.2.1 hcs hms hhs HC.out.1)
    unfold NewOk at G1
    have hpl := h.hp.lt
    have hxl := h.ia.blk.lt
    have hxp : X.x ≠ X.gp := Block.ne_of h.ia.blk h.hp (by decide)
    have HHD := Lib.hid hhd
    clear h hhs hhd
    go_enter Tryd.func79, Tryd.ntmps79
    go_wp2_with fail
    refine G1.out.mono ?_
    rintro e w2 ⟨gt, vt1, rfl, hgt, tb1, b2⟩
    have z1 : w2.frozen? ⟨X.gp, 1, none⟩ = false := (HH.out.hp.below b2 hpl).frozen 1
    have z1c : w2.cell? ⟨X.gp, 1, none⟩ = some (.pointer none) := (HH.out.hp.below b2 hpl).cell 1
    have x8 : (w2.setCell ⟨X.gp, 1, none⟩ (.pointer (some ⟨gt, 0, none⟩))).cell? ⟨X.x, 8, none⟩ = some (.slice Ad st.ds.length cd) := by rw [← HVD.out]; exact ((HH.out.ia.blk.below b2 hxl).far (p := ⟨X.gp, 1, none⟩) hxp _).cell 8
    have t3 : TurnsIn (· = X.gp) w (w2.setCell ⟨X.gp, 1, none⟩ (.pointer (some ⟨gt, 0, none⟩))) := (TurnsIn.ofNew (S := (· = X.gp)) b2).setCell (p := ⟨X.gp, 1, none⟩) (.inl rfl) _
    have hp3 := (HH.out.hp.below b2 hpl).set_ 1 (.pointer (some ⟨gt, 0, none⟩))
    have od3 := HH.out.od.out t3 (fun b hb he => HH.out.od.ne_block HH.out.hp (by decide) (by rw [hb, he]))
    rw [HVD.out] at od3
    obtain ⟨_, _, _, _, _, hh3⟩ := own_open od3
    have G2 := Lib.hid (new_yes Ad st.ds cd _ HC.out.2.2.2 hcd hmd hh3 HC.out.2.2.1)
    unfold NewOk at G2
    have tb3 := Tb.turn tb1 ((TurnsIn.refl (· = X.gp) w2).setCell (p := ⟨X.gp, 1, none⟩) (.inl rfl) (.pointer (some ⟨gt, 0, none⟩))) (fun b ty cs k1 k2 => by
      subst k2
      have := block_ty k1 (HH.out.hp.below b2 hpl)
      subst this
      exact ⟨by decide, by decide⟩)
    have TB3 := Lib.hid tb3
    have T3 := Lib.hid t3
    have HP3 := Lib.hid hp3
    have hsz2 := b2.size
    clear tb1 tb3 t3 hp3 od3 hh3 b2 G1
    go_wp2_with fail
    refine G2.out.mono ?_
    rintro e w4 ⟨gd, vt2, rfl, hgd, tb2, b4⟩
    have hp4 := HP3.out.below b4 HP3.out.lt
    have z4 : w4.frozen? ⟨X.gp, 2, none⟩ = false := hp4.frozen 2
    have z4c : w4.cell? ⟨X.gp, 2, none⟩ = some u2 := hp4.cell 2
    have tb4 := TB3.out.out (TurnsIn.ofNew (S := fun _ => False) b4) (fun h => h) (fun _ _ h => h)
    have ts : TurnsIn (· = X.gp) w4 (w4.setCell ⟨X.gp, 2, none⟩ (.pointer (some ⟨gd, 0, none⟩))) := (TurnsIn.refl (· = X.gp) w4).setCell (p := ⟨X.gp, 2, none⟩) (.inl rfl) _
    have hty : ∀ b ty cs, Block w4 b ty cs → b = X.gp → ty ≠ 184 ∧ ty ≠ 110 := fun b ty cs k1 k2 => by
      subst k2
      have := block_ty k1 hp4
      subst this
      exact ⟨by decide, by decide⟩
    obtain ⟨B1, hB1⟩ : ∃ B, w.heap.size = B := ⟨_, rfl⟩
    obtain ⟨B2, hB2⟩ : ∃ B, (w2.setCell ⟨X.gp, 1, none⟩ (.pointer (some ⟨gt, 0, none⟩))).heap.size = B := ⟨_, rfl⟩
    rw [hB2] at tb2
    have TB1 : Hid (Tb (w4.setCell ⟨X.gp, 2, none⟩ (.pointer (some ⟨gd, 0, none⟩))) w.heap.size gt vt1 st.ls 15 (syms st.ls 15)) := Lib.hid (Tb.turn tb4 ts hty)
    have TB2 : Hid (Tb (w4.setCell ⟨X.gp, 2, none⟩ (.pointer (some ⟨gd, 0, none⟩))) B2 gd vt2 st.ds 15 (syms st.ds 15)) := Lib.hid (Tb.turn tb2 ts hty)
    rw [hB1] at TB1
    have t5 := (T3.out.trans (TurnsIn.ofNew b4)).trans ts
    have hp5 := hp4.set_ 2 (.pointer (some ⟨gd, 0, none⟩))
    have I5 := Lib.hid (HH.out.tables t5 hp5 (fun _ => .inr ⟨gt, vt1, gd, vt2, B1, B2, rfl, rfl, TB1.out, TB2.out⟩))
    have T5 := Lib.hid (t5.mono (T := fun b => b = X.g ∨ b = X.x ∨ b = X.gp ∨ (Value.slice A st.out.length c).ownBlock = some b) (fun b _ hb => .inr (.inr (.inl hb))))
    clear tb4 tb2 hp4 ts hty t5 hp5 hB1 hB2 b4 G2 x7 x8 hcs hms hcd hmd HHD TB3 T3 HP3 HVD
    obtain ⟨w5, hw5⟩ : ∃ w5, w4.setCell ⟨X.gp, 2, none⟩ (.pointer (some ⟨gd, 0, none⟩)) = w5 := ⟨_, rfl⟩
    rw [hw5] at I5 T5 TB1 TB2
    have HW5 := Lib.hid hw5
    clear hw5
    go_upto_region 3 with (fail)
    rw [HW5.out]
    clear HW5 z1 z1c z4 z4c y1
  case' inr =>
    have y1 : w.cell? ⟨X.gp, 1, none⟩ = some (.pointer (some ⟨gt, 0, none⟩)) := HH.out.hp.cell 1
    obtain ⟨w5, hw5⟩ : ∃ w5, w5 = w := ⟨w, rfl⟩
    have I5 : Hid (InAt w5 X st vs vd A c p (.pointer (some ⟨gt, 0, none⟩)) (.pointer (some ⟨gd, 0, none⟩))) := Lib.hid (by rw [hw5]; exact HH.out)
    have TB1 : Hid (Tb w5 B1 gt vt1 st.ls 15 (syms st.ls 15)) := Lib.hid (by rw [hw5]; exact tb1)
    have TB2 : Hid (Tb w5 B2 gd vt2 st.ds 15 (syms st.ds 15)) := Lib.hid (by rw [hw5]; exact tb2)
    have T5 : Hid (TurnsIn (fun b => b = X.g ∨ b = X.x ∨ b = X.gp ∨ (Value.slice A st.out.length c).ownBlock = some b) w w5) := Lib.hid (by rw [hw5]; exact TurnsIn.refl _ _)
    have HW := Lib.hid hw5
    clear h tb1 tb2 hw5
    go_enter Tryd.func79, Tryd.ntmps79
    go_upto_region 3 with (fail)
    rw [← HW.out]
  all_goals
    have hB5 : X.B ≤ w5.heap.size := Nat.le_trans hB T5.out.size
    have y5 : w5.cell? ⟨X.gp, 1, none⟩ = some (.pointer (some ⟨gt, 0, none⟩)) := I5.out.hp.cell 1
    rcases sym_cases I5.out.hp (by omega) HC.out.1 HC.out.2.1 I5.out.rd hob hbl TB1.out with ⟨s, k, ht, hg⟩ | ⟨hs1, hg⟩ | ⟨hs1, hg⟩
    · have hsr := told_lt HC.out.1 HC.out.2.1 (HB.out.drop _) ht
      have HR1 : Hid (r = (if s < 256 then bindG (refG (decide (X.most < st.out.length + 1)) 12) fun _ => pureG { st with out := st.out ++ [s] } else if s = 256 then pureG st.closed else bindG (matchG (s - 257) st.ds st.out.length X.most) fun m => pureG { st with out := rep st.out m.1.toNat m.2.toNat }) (bitsOf X.bs) (p + k)) := Lib.hid (by
        rw [HR.out]
        unfold codeG
        rw [bindG_ok _ (symG_sym ht)])
      have GS := Lib.hid hg
      clear hg ht HR
      go_upto_region 5 with (first | (go_at_call 106; refine GS.out.mono ?_; rintro e w7 ⟨rfl, t7, R7⟩; have I7 := Lib.hid (I5.out.read t7 R7); have T7 := Lib.hid (T5.out.trans (T0.out _ _ t7)); have TB7 := Lib.hid (Tb.turn TB2.out t7 (fun b ty cs k1 k2 => by (subst k2; have := block_ty k1 I5.out.rd.blk; subst this; exact ⟨by decide, by decide⟩))); clear t7 R7))
      clear GS
      have hB7 : X.B ≤ w7.heap.size := Nat.le_trans hB T7.out.size
      by_cases c0 : s < 256
      · obtain ⟨e0, rfl⟩ := Int.eq_ofNat_of_zero_le hsr.1
        have d0 : decide ((e0 : Int) < 256) = true := decide_eq_true c0
        have d0n : decide (e0 < 256) = true := decide_eq_true (by omega)
        have hew : IntKind.u8.wrap (e0 : Int) = (e0 : Int) := by rw [IntKind.wrap_u8]; omega
        have HR2 := Lib.hid (HR1.out.trans (show _ = bindG (refG (decide (X.most < st.out.length + 1)) 12) (fun _ => pureG { st with out := st.out ++ [(e0 : Int)] }) (bitsOf X.bs) (p + k) by rw [if_pos c0]))
        clear c0 HR1
        by_cases hful : ((st.out.length + 1 : Nat) : Int) ≤ X.most
        · have HR3 := Lib.hid (HR2.out.trans (show _ = .ok { st with out := st.out ++ [(e0 : Int)] } (p + k) by rw [decide_eq_false (by omega), ref_no_bind]; rfl))
          have HFU := Lib.hid hful
          clear hful HR2
          go_wp2_with fail
          refine (full_yes X.B X.x _ st.out A c 1 w7 I7.out.ia (by omega) HFU.out).mono ?_
          rintro e w9 ⟨rfl, t9⟩
          have i9 := I7.out.quiet t9
          have I9 := Lib.hid (i9.below ((Below.refl _ _).alloc (Nat.le_refl _) (.cells #[.int .u8 (e0 : Int)] 5)))
          have T9 := Lib.hid (((T7.out.trans (t9.mono fun _ _ h => h.elim)).alloc (.cells #[.int .u8 (e0 : Int)] 5)))
          have hxl : X.x < w9.heap.size := i9.ia.blk.lt
          have hB9 : X.B ≤ (w9.alloc (.cells #[.int .u8 (e0 : Int)] 5)).heap.size := Nat.le_trans hB T9.out.size
          have GT := Lib.hid (tell_any X.B X.x _ st.out [(e0 : Int)] A c (some ⟨w9.heap.size, 0, none⟩) 1 _ hB9 I9.out.ia HFU.out ((Holds.new w9 .u8 (e0 : Int) 5).more (by simp)) (fun b hb => by injection hb with hb; have hb' : w9.heap.size = b := hb; omega))
          unfold TellTo at GT
          clear i9 t9
          go_wp2_with fail
          refine GT.out.mono ?_
          rintro e w10 ⟨rfl, t10, A', c', i10, n10⟩
          have I10 := Lib.hid (I9.out.told t10 i10 n10)
          have T10 := Lib.hid t10
          have N10 := Lib.hid n10
          have hsz9 := T9.out.size
          clear t10 i10 n10
          go_wp2_with fail
          go_end0
          refine HQ.out _ _ ?_
          rw [HR3.out]
          refine ⟨T9.out.then_ T10.out (fun b _ hb => ?_), rfl, vs, vd, A', c', _, _, I10.out, Newer.trans (Newer.refl _ _) hsz9 N10.out, Newer.refl _ _, Newer.refl _ _⟩
          rcases hb with hb | hb
          · exact .inr (.inl hb)
          · exact .inr (.inr (.inr hb))
        · have HE := Lib.hid (HR2.out.trans (show _ = .bad 12 by rw [decide_eq_true (by omega)]; exact bindG_bad _ (refG_yes 12 _ _)))
          have HFU := Lib.hid hful
          clear hful HR2
          go_wp2_with fail
          refine (full_no X.B X.x _ st.out A c 1 w7 I7.out.ia (by omega) (Int.not_le.2 HFU.out)).mono ?_
          rintro e w9 ⟨rfl, t9⟩
          go_wp2_with fail
          exact ⟨rfl, HQ.out _ _ <| StepTo.bad HE.out (T7.out.trans (t9.mono fun _ _ h => h.elim)) (I7.out.quiet t9)⟩
      · have d0 : decide (s < 256) = false := decide_eq_false c0
        by_cases c1 : s = 256
        · subst c1
          have HR2 := Lib.hid (HR1.out.trans (show _ = .ok st.closed (p + k) by rw [if_neg (by decide), if_pos rfl]; rfl))
          clear c0 HR1
          go_wp2_with fail
          refine (close_any X.B X.x _ st.out A c w7 I7.out.ia).mono ?_
          rintro e w9 ⟨rfl, t9, i9⟩
          have I9 := Lib.hid (I7.out.close t9 i9)
          have T9 := Lib.hid (T7.out.trans (t9.mono (T := fun b => b = X.g ∨ b = X.x ∨ b = X.gp ∨ (Value.slice A st.out.length c).ownBlock = some b) (fun b _ hb => .inr (.inl hb))))
          clear t9 i9
          go_wp2_with fail
          go_end0
          refine HQ.out _ _ ?_
          rw [HR2.out]
          exact ⟨T9.out, rfl, _, _, A, c, _, _, I9.out, Newer.refl _ _, .inr (fun g hg => by simp [Value.ownBlock] at hg), .inr (fun g hg => by simp [Value.ownBlock] at hg)⟩
        · have d1 : (s == 256) = false := by rw [beq_eq_false_iff_ne]; exact c1
          have HR2 := Lib.hid (HR1.out.trans (show _ = bindG (matchG (s - 257) st.ds st.out.length X.most) (fun m => pureG { st with out := rep st.out m.1.toNat m.2.toNat }) (bitsOf X.bs) (p + k) by rw [if_neg c0, if_neg c1]))
          have hsw : IntKind.i64.wrap (s - 257) = s - 257 := by rw [IntKind.wrap_i64]; omega
          have hs3 : SOk X.most st (p + k) := ⟨HS.out.ph, HS.out.len, HS.out.oct, fun e => absurd e (by rw [H2.out]; decide), HS.out.codes, HS.out.lists, HS.out.none⟩
          have GM := Lib.hid (match_any X st vs vd A c (p + k) (.pointer (some ⟨gt, 0, none⟩)) gd B2 vt2 (s - 257) w7 I7.out hs3 H2.out TB7.out (by omega) hob hbl hB7 hm)
          obtain ⟨z, hz⟩ : ∃ z, bindG (matchG (s - 257) st.ds st.out.length X.most) (fun m => pureG { st with out := rep st.out m.1.toNat m.2.toNat }) (bitsOf X.bs) (p + k) = z := ⟨_, rfl⟩
          rw [hz] at HR2 GM
          unfold StepTo at GM
          clear c0 c1 HR1 hs3 hz
          cases z with
          | miss =>
            unfold missingE at GM
            go_wp2_with fail
            refine GM.out.mono ?_
            rintro e w9 ⟨t9, rfl, q9, x1, x2, i9⟩
            go_wp2_with fail
            exact ⟨rfl, HQ.out _ _ <| StepTo.miss HR2.out (T7.out.trans t9) i9⟩
          | bad why =>
            unfold brokenE at GM
            go_wp2_with fail
            refine GM.out.mono ?_
            rintro e w9 ⟨t9, rfl, q9, x1, x2, i9⟩
            go_wp2_with fail
            exact ⟨rfl, HQ.out _ _ <| StepTo.bad HR2.out (T7.out.trans t9) i9⟩
          | ok st' q9 =>
            go_wp2_with fail
            refine GM.out.mono ?_
            rintro e w9 ⟨t9, rfl, vs', vd', A', c', x1, x2, i9, n1, n2, n3⟩
            have T9 := Lib.hid (T7.out.trans t9)
            have I9 := Lib.hid i9
            have N9 := Lib.hid (And.intro n1 (And.intro n2 n3))
            have hsz7 := T7.out.size
            clear t9 i9 n1 n2 n3
            go_wp2_with fail
            go_end0
            refine HQ.out _ _ ?_
            rw [HR2.out]
            exact ⟨T9.out, rfl, vs', vd', A', c', x1, x2, I9.out, Newer.trans (Newer.refl _ _) hsz7 N9.out.1, Newer.trans (Newer.refl _ _) hsz7 N9.out.2.1, Newer.trans (Newer.refl _ _) hsz7 N9.out.2.2⟩
    · have HE := Lib.hid (HR.out.trans (by unfold codeG; exact bindG_miss _ hs1 : _ = Res.miss))
      have GS := Lib.hid hg
      clear hg hs1 HR
      go_wp2_with fail
      refine GS.out.mono ?_
      rintro e w7 ⟨rfl, t7, R7⟩
      go_wp2_with fail
      exact ⟨rfl, HQ.out _ _ <| StepTo.miss HE.out (T5.out.trans (T0.out _ _ t7)) (I5.out.read t7 R7)⟩
    · have HE := Lib.hid (HR.out.trans (by unfold codeG; exact bindG_bad _ hs1 : _ = Res.bad 11))
      have GS := Lib.hid hg
      clear hg hs1 HR
      go_wp2_with fail
      refine GS.out.mono ?_
      rintro e w7 ⟨rfl, t7, R7⟩
      go_wp2_with fail
      exact ⟨rfl, HQ.out _ _ <| StepTo.bad HE.out (T5.out.trans (T0.out _ _ t7)) (I5.out.read t7 R7)⟩
end Go.Proofs.YthmkeflkhocobaaDoor.Inf
