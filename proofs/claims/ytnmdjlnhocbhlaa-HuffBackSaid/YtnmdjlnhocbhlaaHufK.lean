/-
  Layer 9, huff: symbols written by their codes, and read again: plain. No program. No conditions beyond what each theorem names.
-/
import Derived.Test.YtnmdjlnhocbhlaaHufW
namespace Go.Proofs.Ytnmdjlnhocbhlaa.Huf
open Go.RowKit Go.Proofs.Ytnmdjlnhocbhlaa.Kit Go.Proofs.Ytnmdjlnhocbhlaa.Bits

/-- The symbols that have a code. -/
def keep (l : List Int) : List Int → List Int
  | [] => []
  | s :: ss => if s < l.length ∧ l.getD s.toNat 0 ≠ 0 then s :: keep l ss else keep l ss
theorem keep_append (l : List Int) : ∀ a b : List Int, keep l (a ++ b) = keep l a ++ keep l b
  | [], _ => rfl
  | s :: a, b => by
    rw [List.cons_append, keep, keep, keep_append l a b]
    split <;> rfl
theorem keep_length (l : List Int) : ∀ a : List Int, (keep l a).length ≤ a.length
  | [] => Nat.le_refl _
  | s :: a => by
    have := keep_length l a
    rw [keep]
    split <;> simp <;> omega
theorem keep_mem {l : List Int} : ∀ {a : List Int} {s : Int}, s ∈ keep l a → s ∈ a ∧ s < l.length ∧ l.getD s.toNat 0 ≠ 0
  | x :: a, s, h => by
    rw [keep] at h
    split at h
    · rcases List.mem_cons.1 h with rfl | h
      · exact ⟨List.mem_cons_self .., by assumption⟩
      · exact ⟨List.mem_cons_of_mem _ (keep_mem h).1, (keep_mem h).2⟩
    · exact ⟨List.mem_cons_of_mem _ (keep_mem h).1, (keep_mem h).2⟩
theorem keep_next {l a : List Int} (i : Nat) (h : i < a.length) : keep l (a.take (i + 1)) = if a[i] < l.length ∧ l.getD a[i].toNat 0 ≠ 0 then keep l (a.take i) ++ [a[i]] else keep l (a.take i) := by
  rw [List.take_add_one, List.getElem?_eq_getElem h, keep_append]
  simp only [Option.toList_some, keep]
  split <;> simp

/-- All symbols' bits. -/
def allb (l : List Int) : List Int → List Int
  | [] => []
  | s :: ss => bitsAt l s.toNat ++ allb l ss
theorem allb_append (l : List Int) : ∀ a b : List Int, allb l (a ++ b) = allb l a ++ allb l b
  | [], _ => rfl
  | s :: a, b => by rw [List.cons_append, allb, allb, allb_append l a b, List.append_assoc]
theorem allb_length {l : List Int} (h15 : ∀ n ∈ l, n ≤ 15) : ∀ ks : List Int, (allb l ks).length ≤ 15 * ks.length
  | [] => by simp [allb]
  | s :: ks => by
    have := allb_length h15 ks
    rw [allb, List.length_append, bitsAt_length, List.length_cons]
    have : l.getD s.toNat 0 ≤ 15 := by
      rcases Nat.lt_or_ge s.toNat l.length with h | h
      · have := h15 l[s.toNat] (List.getElem_mem h)
        simp [List.getD, h]
        omega
      · simp [List.getD, h]
    omega
theorem bitsAt_bit (l : List Int) (s : Nat) : Bit (bitsAt l s) := bit_rev (num_bit _ _)
theorem allb_bit (l : List Int) : ∀ ks : List Int, Bit (allb l ks)
  | [] => Bit.nil
  | s :: ks => (bitsAt_bit l _).append (allb_bit l ks)

/-- What is told where the j-th symbol's bits stand, whatever is behind them all. -/
theorem told_at {l : List Int} (h : mayB l = true) (ho : Octets l) (ks Z : List Int) (hZ : Bit Z) (j : Nat) (hj : j < ks.length) (hk : ∀ s ∈ ks, 0 ≤ s ∧ s < l.length ∧ l.getD s.toNat 0 ≠ 0) :
    ∃ n, told l ((allb l ks ++ Z).drop (allb l (ks.take j)).length) = .sym ks[j] n ∧ (allb l (ks.take (j + 1))).length = (allb l (ks.take j)).length + n := by
  obtain ⟨h0, hl, hne⟩ := hk ks[j] (List.getElem_mem hj)
  obtain ⟨s, hs⟩ := Int.eq_ofNat_of_zero_le h0
  rw [hs] at hl hne
  rw [Int.toNat_natCast] at hne
  have hsl : s < l.length := by omega
  have hg : l.getD s 0 = l[s] := by simp [List.getD, hsl]
  have hx := ho l[s] (List.getElem_mem hsl)
  rw [← hg] at hx
  obtain ⟨n, hn⟩ := Int.eq_ofNat_of_zero_le hx.1
  have hbl : (bitsAt l s).length = n := by rw [bitsAt_length, hn, Int.toNat_natCast]
  have hsplit : allb l ks = allb l (ks.take j) ++ (bitsAt l s ++ allb l (ks.drop (j + 1))) := by
    conv => lhs; rw [← List.take_append_drop j ks, allb_append, List.drop_eq_getElem_cons hj, allb, hs, Int.toNat_natCast]
  have hd : (allb l ks ++ Z).drop (allb l (ks.take j)).length = bitsAt l s ++ (allb l (ks.drop (j + 1)) ++ Z) := by
    rw [hsplit, List.append_assoc, List.drop_left, List.append_assoc]
  refine ⟨n, ?_, ?_⟩
  · rw [hd, hs]
    refine sofar_match h ho ((bitsAt_bit l s).append ((allb_bit l _).append hZ)) hsl (by omega) hn (by rw [List.length_append]; omega) ?_
    rw [List.take_append_of_le_length (by omega)]
  · rw [List.take_add_one, List.getElem?_eq_getElem hj, allb_append, List.length_append]
    simp only [Option.toList_some, allb, List.append_nil, hs, Int.toNat_natCast, hbl]
end Go.Proofs.Ytnmdjlnhocbhlaa.Huf
