/-
  Layer 11, lz: tokens that fit a text make the text: plain lists. No program. Conditions: as each theorem names.
-/
import Derived.Test.YthicgcgohpakgaaLzE
namespace Go.Proofs.Ythicgcgohpakgaa.Lz
open Go.RowKit Go.Proofs.Ythicgcgohpakgaa.Kit

theorem take_next (b : List Int) (i : Nat) (h : i < b.length) : b.take (i + 1) = b.take i ++ [b[i]?.getD 0] := by
  rw [List.take_add_one, List.getElem?_eq_getElem h]
  rfl

theorem cp_take (b : List Int) (i D L : Nat) (hD : 1 ≤ D) (hi : D ≤ i) (hL : i + L ≤ b.length) (hs : ∀ k, k < L → b[i - D + k]?.getD 0 = b[i + k]?.getD 0) : cp (b.take i) D L = b.take (i + L) := by
  induction L with
  | zero => rfl
  | succ L ih =>
    have h1 := ih (by omega) (fun k hk => hs k (by omega))
    have hlen : (b.take (i + L)).length = i + L := by simp; omega
    rw [cp, h1, hlen, show i + (L + 1) = (i + L) + 1 by omega, take_next b (i + L) (by omega)]
    have h2 : (b.take (i + L))[i + L - D]?.getD 0 = b[i + L]?.getD 0 := by
      rw [List.getElem?_take_of_lt (by omega), show i + L - D = i - D + L by omega]
      exact hs L (by omega)
    rw [h2]

/-- These tokens, from place i on, make the rest of b. -/
def Fits (b : List Int) : Nat → List Tok → Prop
  | i, [] => i = b.length
  | i, t :: ts => (t.l = 0 ∧ t.d = 0 ∧ i < b.length ∧ t.a = b[i]?.getD 0 ∧ Fits b (i + 1) ts) ∨
      (t.a = 0 ∧ ∃ L D : Nat, t.l = L ∧ t.d = D ∧ 3 ≤ L ∧ L ≤ 258 ∧ 1 ≤ D ∧ D ≤ 32768 ∧ D ≤ i ∧ i + L ≤ b.length ∧ (∀ k, k < L → b[i - D + k]?.getD 0 = b[i + k]?.getD 0) ∧ Fits b (i + L) ts)

theorem expand_fits (b : List Int) (ts : List Tok) : ∀ i, i ≤ b.length → Fits b i ts → expand b.length ts (b.take i) = (b, 0) := by
  induction ts with
  | nil =>
    intro i _ h
    unfold Fits at h
    subst h
    simp [expand]
  | cons t ts ih =>
    intro i hi h
    obtain ⟨a, l, d⟩ := t
    have hlen : (b.take i).length = i := by simp; omega
    rcases h with ⟨h1, h2, h3, h4, h5⟩ | ⟨h0, L, D, h1, h2, h3, h4, h5, h6, h7, h8, h9, h10⟩
    · simp only at h1 h2 h4
      subst h1 h2 h4
      have hm : mayB (b[i]?.getD 0) 0 0 = true := by simp [mayB]
      rw [expand]
      simp only [hm, Bool.true_eq_false, if_false, hlen]
      rw [if_neg (by omega), if_neg (by simp; omega)]
      have := ih (i + 1) (by omega) h5
      rw [take_next b i h3] at this
      simpa [step] using this
    · simp only at h0 h1 h2
      subst h0 h1 h2
      have hm : mayB 0 (L : Int) (D : Int) = true := by
        unfold mayB
        rw [if_neg (by omega)]
        exact decide_eq_true ⟨rfl, by omega, by omega, by omega, by omega⟩
      rw [expand]
      simp only [hm, Bool.true_eq_false, if_false, hlen]
      rw [if_neg (by omega), if_neg (by split <;> omega)]
      have := ih (i + L) (by omega) h10
      rw [← cp_take b i D L h5 h7 h8 h9] at this
      have hs : step (b.take i) ⟨0, (L : Int), (D : Int)⟩ = cp (b.take i) D L := by
        unfold step
        rw [if_neg (by simp; omega)]
        simp
      rw [hs]
      exact this

theorem Fits.length {b : List Int} : ∀ {ts : List Tok} {i : Nat}, Fits b i ts → i + ts.length ≤ b.length := by
  intro ts
  induction ts with
  | nil => intro i h; unfold Fits at h; simp; omega
  | cons t ts ih =>
    intro i h
    rcases h with ⟨_, _, _, _, h5⟩ | ⟨_, L, D, _, _, h3, _, _, _, _, _, _, h10⟩
    · have := ih h5; simp; omega
    · have := ih h10; simp; omega

theorem Fits.may {b : List Int} : ∀ {ts : List Tok} {i : Nat}, Fits b i ts → ∀ t ∈ ts, mayB t.a t.l t.d = true := by
  intro ts
  induction ts with
  | nil => intro i _ t ht; simp at ht
  | cons u ts ih =>
    intro i h t ht
    rcases List.mem_cons.1 ht with rfl | ht
    · rcases h with ⟨h1, h2, _⟩ | ⟨h0, L, D, h1, h2, h3, h4, h5, h6, _⟩
      · simp [mayB, h1, h2]
      · unfold mayB
        rw [h0, h1, h2, if_neg (by omega)]
        exact decide_eq_true ⟨rfl, by omega, by omega, by omega, by omega⟩
    · rcases h with ⟨_, _, _, _, h5⟩ | ⟨_, L, D, _, _, _, _, _, _, _, _, _, h10⟩
      · exact ih h5 t ht
      · exact ih h10 t ht
end Go.Proofs.Ythicgcgohpakgaa.Lz
