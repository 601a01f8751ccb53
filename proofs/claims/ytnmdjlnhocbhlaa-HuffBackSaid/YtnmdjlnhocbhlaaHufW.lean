/-
  Layer 9, huff: the document's search, symbol by symbol: plain. No program. No conditions beyond what each theorem names.
-/
import Derived.Test.YtnmdjlnhocbhlaaHufV
namespace Go.Proofs.Ytnmdjlnhocbhlaa.Huf
open Go.RowKit Go.Proofs.Ytnmdjlnhocbhlaa.Kit Go.Proofs.Ytnmdjlnhocbhlaa.Bits

/-- What is so of the symbols before s: none stands, and g tells whether one goes on behind the end. -/
def Sofar (l bits : List Int) (s : Nat) (g : Bool) : Prop := (∀ j, j < s → ¬ Match l j bits) ∧ (g = true ↔ ∃ j, j < s ∧ Pre l j bits)

theorem sofar_zero (l bits : List Int) : Sofar l bits 0 false := ⟨fun j hj => absurd hj (by omega), by simp⟩

theorem Match.pos {l bits : List Int} {s : Nat} (h : Match l s bits) : 0 < l.getD s 0 := by
  obtain ⟨_, n, h0, hn, _⟩ := h
  omega
theorem Pre.pos {l bits : List Int} {s : Nat} (h : Pre l s bits) : 0 < l.getD s 0 := by
  obtain ⟨_, n, h0, hn, _⟩ := h
  omega

theorem sofar_skip {l bits : List Int} {s : Nat} {g : Bool} (h : Sofar l bits s g) (h0 : l.getD s 0 = 0) : Sofar l bits (s + 1) g := by
  refine ⟨fun j hj hm => ?_, h.2.trans ⟨?_, ?_⟩⟩
  · by_cases he : j = s
    · subst he
      have := hm.pos
      omega
    · exact h.1 j (by omega) hm
  · rintro ⟨j, hj, hp⟩
    exact ⟨j, by omega, hp⟩
  · rintro ⟨j, hj, hp⟩
    by_cases he : j = s
    · subst he
      have := hp.pos
      omega
    · exact ⟨j, by omega, hp⟩

theorem bitsAt_length (l : List Int) (s : Nat) : (bitsAt l s).length = (l.getD s 0).toNat := by simp [bitsAt, num_length]

theorem sofar_match {l : List Int} (h : mayB l = true) (ho : Octets l) {bits : List Int} (hb : Bit bits) {s n : Nat} (hs : s < l.length) (h0 : 0 < n) (hn : l.getD s 0 = (n : Int)) (hl : n ≤ bits.length)
    (he : (bitsAt l s).take n = bits.take n) : told l bits = .sym (s : Int) n := by
  refine told_match h ho hb n ((match_iff h ho hb hs h0 hn hl).2 ?_) hn
  rw [← he, List.take_of_length_le (by rw [bitsAt_length, hn]; omega)]

theorem sofar_long {l : List Int} (h : mayB l = true) (ho : Octets l) {bits : List Int} (hb : Bit bits) {s n : Nat} {g : Bool} (hs : s < l.length) (h0 : 0 < n) (hn : l.getD s 0 = (n : Int)) (hl : n ≤ bits.length)
    (he : (bitsAt l s).take n ≠ bits.take n) (hg : Sofar l bits s g) : Sofar l bits (s + 1) g := by
  have hm : ¬ Match l s bits := fun hm => he (by rw [← (match_iff h ho hb hs h0 hn hl).1 hm, List.take_of_length_le (by rw [bitsAt_length, hn]; omega)])
  have hp : ¬ Pre l s bits := fun ⟨_, m, _, hm, hlt, _⟩ => by omega
  refine ⟨fun j hj hm' => ?_, hg.2.trans ⟨?_, ?_⟩⟩
  · by_cases hj2 : j = s
    · exact hm (hj2 ▸ hm')
    · exact hg.1 j (by omega) hm'
  · rintro ⟨j, hj, hp'⟩
    exact ⟨j, by omega, hp'⟩
  · rintro ⟨j, hj, hp'⟩
    by_cases hj2 : j = s
    · exact absurd (hj2 ▸ hp') hp
    · exact ⟨j, by omega, hp'⟩

theorem sofar_brief {l : List Int} (h : mayB l = true) (ho : Octets l) {bits : List Int} (hb : Bit bits) {s n : Nat} {g : Bool} (hs : s < l.length) (h0 : 0 < n) (hn : l.getD s 0 = (n : Int)) (hl : bits.length < n)
    (hg : Sofar l bits s g) : Sofar l bits (s + 1) (g || decide ((bitsAt l s).take bits.length = bits)) := by
  have hp := pre_iff h ho hb hs h0 hn hl
  have hm : ¬ Match l s bits := fun ⟨_, m, _, hm, hlt, _⟩ => by omega
  refine ⟨fun j hj hm' => ?_, ?_⟩
  · by_cases hj2 : j = s
    · exact hm (hj2 ▸ hm')
    · exact hg.1 j (by omega) hm'
  · rw [Bool.or_eq_true, decide_eq_true_iff, ← hp, hg.2]
    constructor
    · rintro (⟨j, hj, hp'⟩ | hp')
      · exact ⟨j, by omega, hp'⟩
      · exact ⟨s, by omega, hp'⟩
    · rintro ⟨j, hj, hp'⟩
      by_cases hj2 : j = s
      · exact .inr (hj2 ▸ hp')
      · exact .inl ⟨j, by omega, hp'⟩

theorem sofar_end {l : List Int} (h : mayB l = true) (ho : Octets l) {bits : List Int} (hb : Bit bits) {g : Bool} (hg : Sofar l bits l.length g) : told l bits = if g then .short else .form := by
  have hm : ∀ j, ¬ Match l j bits := fun j hj => hg.1 j hj.1 hj
  cases g with
  | true =>
    obtain ⟨j, _, hp⟩ := hg.2.1 rfl
    exact told_short h ho hb hm hp
  | false => exact told_form h ho hb hm fun j hj => absurd (hg.2.2 ⟨j, hj.1, hj⟩) (by decide)

/-- One bit more of two lists that are the same so far. -/
theorem same_next (a b : List Int) (k : Nat) (ha : k < a.length) (hb : k < b.length) : (decide (a.take k = b.take k) && (a[k]?.getD 0 == b[k]?.getD 0)) = decide (a.take (k + 1) = b.take (k + 1)) := by
  have e1 := List.take_add_one (l := a) (i := k)
  have e2 := List.take_add_one (l := b) (i := k)
  rw [List.getElem?_eq_getElem ha] at e1 ⊢
  rw [List.getElem?_eq_getElem hb] at e2 ⊢
  simp only [Option.getD_some, Option.toList_some] at e1 e2 ⊢
  apply Bool.eq_iff_iff.2
  rw [Bool.and_eq_true, decide_eq_true_iff, beq_iff_eq, decide_eq_true_iff, e1, e2]
  constructor
  · rintro ⟨h1, h2⟩
    rw [h1, h2]
  · intro h
    refine ⟨List.append_inj_left h (by rw [List.length_take, List.length_take]; omega), ?_⟩
    have := List.append_inj_right h (by rw [List.length_take, List.length_take]; omega)
    injection this

/-- The document's answer for what is told. -/
def toldV : Told → Value
  | .sym s n => .tuple #[.int .i64 s, .int .i64 n, .int .i64 0]
  | .short => .tuple #[.int .i64 0, .int .i64 0, .int .i64 2]
  | .form => .tuple #[.int .i64 0, .int .i64 0, .int .i64 3]
end Go.Proofs.Ytnmdjlnhocbhlaa.Huf
