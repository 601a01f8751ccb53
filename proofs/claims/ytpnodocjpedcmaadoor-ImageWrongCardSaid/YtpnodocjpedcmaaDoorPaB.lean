/-
  Layer 7, part: what is written into a region, plain. Conditions: as each theorem names.
-/
import Derived.Test.YtpnodocjpedcmaaDoorPaA
namespace Go.Proofs.YtpnodocjpedcmaaDoor.Pt
open Go.ChangeShapes Go.WideShapes Go.ChangeAt Go.RowKit Go.Proofs.YtpnodocjpedcmaaDoor.Kit Go.Proofs.YtpnodocjpedcmaaDoor.Sec

/-- Bytes, and zeros to the end of the sector. -/
def padB (n : Nat) (xs : List Int) : List Int := xs ++ List.replicate (n - xs.length) 0
/-- The k-th sector that is written. -/
def chunkP (n : Nat) (bs : List Int) (k : Nat) : List Int := padB n ((bs.drop (k * n)).take n)
theorem padB_length {n : Nat} {xs : List Int} (h : xs.length ≤ n) : (padB n xs).length = n := by
  unfold padB
  rw [List.length_append, List.length_replicate]
  omega
theorem chunkP_length (n : Nat) (bs : List Int) (k : Nat) : (chunkP n bs k).length = n := padB_length (by rw [List.length_take]; omega)
theorem chunkP_octets {n : Nat} {bs : List Int} (h : Octets bs) (k : Nat) : Octets (chunkP n bs k) := by
  intro x hx
  unfold chunkP padB at hx
  rcases List.mem_append.1 hx with hx | hx
  · exact h x (List.mem_of_mem_drop (List.mem_of_mem_take hx))
  · rw [(List.mem_replicate.1 hx).2]
    omega
/-- The device behind k writes. -/
def wrS (s : Dv) (i : Int) (bs : List Int) : Nat → Dv
  | 0 => s
  | k + 1 => ((wrS s i bs k).write (i + k) (chunkP s.size bs k)).2
def errS (s : Dv) (i : Int) (bs : List Int) (k : Nat) : Int := ((wrS s i bs k).write (i + k) (chunkP s.size bs k)).1
def OkW (s : Dv) (i : Int) (bs : List Int) (k : Nat) : Prop := ∀ j, j < k → errS s i bs j = 0
/-- How many sectors are written. -/
def manyP (n : Nat) (bs : List Int) : Nat := (bs.length + n - 1) / n
def WritesP (s : Dv) (i : Int) (bs : List Int) (r : Int × Dv) : Prop :=
  (∃ k, k < manyP s.size bs ∧ OkW s i bs k ∧ errS s i bs k ≠ 0 ∧ r = (errS s i bs k, wrS s i bs (k + 1))) ∨ (OkW s i bs (manyP s.size bs) ∧ r = (0, wrS s i bs (manyP s.size bs)))
theorem writes_one {s : Dv} {i : Int} {bs : List Int} {r t : Int × Dv} (h : WritesP s i bs r) (g : WritesP s i bs t) : r = t := by
  rcases h with ⟨k, hk, h1, h2, rfl⟩ | ⟨h1, rfl⟩ <;> rcases g with ⟨l, hl, g1, g2, rfl⟩ | ⟨g1, rfl⟩
  · rcases Nat.lt_trichotomy k l with h | h | h
    · exact absurd (g1 k h) h2
    · rw [h]
    · exact absurd (h1 l h) g2
  · exact absurd (g1 k hk) h2
  · exact absurd (h1 l hl) g2
  · rfl
theorem manyP_iff {n : Nat} (hn : 0 < n) (bs : List Int) (k : Nat) : k < manyP n bs ↔ k * n < bs.length := by
  unfold manyP
  rw [Nat.lt_iff_add_one_le, Nat.le_div_iff_mul_le hn, Nat.add_mul, Nat.one_mul]
  omega
theorem write_near (s : Dv) (i : Int) (xs : List Int) : (s.write i xs).2.offs ≤ s.offs + 1 ∧ (s.write i xs).2.wr ≤ s.wr + 1 ∧ (s.write i xs).2.size = s.size ∧ (s.write i xs).2.count = s.count := by
  have ht : ∀ u : Dv, u.tick.offs ≤ u.offs + 1 ∧ u.tick.wr = u.wr ∧ u.tick.size = u.size ∧ u.tick.count = u.count := by
    intro u
    unfold Dv.tick Dv.down
    split
    · exact ⟨by omega, rfl, rfl, rfl⟩
    · split
      · split
        · exact ⟨by omega, rfl, rfl, rfl⟩
        · exact ⟨Int.le_refl _, rfl, rfl, rfl⟩
      · exact ⟨by show u.offs ≤ _; omega, rfl, rfl, rfl⟩
  unfold Dv.write
  split
  · exact ⟨by show s.offs ≤ _; omega, by show s.wr ≤ _; omega, rfl, rfl⟩
  split
  · exact ⟨by show s.offs ≤ _; omega, by show s.wr ≤ _; omega, rfl, rfl⟩
  split
  · exact ⟨by show s.offs ≤ _; omega, by show s.wr ≤ _; omega, rfl, rfl⟩
  have h := ht (s.writes i xs)
  split
  · exact ⟨h.1, by have h2 := h.2.1; have h3 : (s.writes i xs).wr = s.wr := rfl; show (s.writes i xs).tick.wr ≤ _; omega, h.2.2.1, h.2.2.2⟩
  · exact ⟨h.1, Int.le_refl _, h.2.2.1, h.2.2.2⟩
theorem wrS_near (s : Dv) (i : Int) (bs : List Int) : ∀ k, (wrS s i bs k).offs ≤ s.offs + k ∧ (wrS s i bs k).wr ≤ s.wr + k ∧ (wrS s i bs k).size = s.size ∧ (wrS s i bs k).count = s.count
  | 0 => ⟨by show s.offs ≤ s.offs + ((0 : Nat) : Int); omega, by show s.wr ≤ s.wr + ((0 : Nat) : Int); omega, rfl, rfl⟩
  | k + 1 => by
    obtain ⟨h1, h2, h3, h4⟩ := wrS_near s i bs k
    obtain ⟨g1, g2, g3, g4⟩ := write_near (wrS s i bs k) (i + k) (chunkP s.size bs k)
    refine ⟨?_, ?_, g3.trans h3, g4.trans h4⟩
    · show ((wrS s i bs k).write (i + k) (chunkP s.size bs k)).2.offs ≤ _
      omega
    · show ((wrS s i bs k).write (i + k) (chunkP s.size bs k)).2.wr ≤ _
      omega
end Go.Proofs.YtpnodocjpedcmaaDoor.Pt
