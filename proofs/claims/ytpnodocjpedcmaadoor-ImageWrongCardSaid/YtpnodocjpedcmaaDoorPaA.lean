/-
  Layer 7, part: what is read of a region, plain. Conditions: as each theorem names.
-/
import Derived.Test.YtpnodocjpedcmaaDoorSeN
namespace Go.Proofs.YtpnodocjpedcmaaDoor.Pt
open Go.ChangeShapes Go.WideShapes Go.ChangeAt Go.RowKit Go.Proofs.YtpnodocjpedcmaaDoor.Kit Go.Proofs.YtpnodocjpedcmaaDoor.Sec

/-- What is read is a sector. -/
def Whole (s : Dv) : Prop := ∀ i xs, s.read i = (xs, 0) → xs.length = s.size ∧ Octets xs
theorem ties_rows {w : World} {I : Nat → Prop} {n : Nat} {es : List (Go.Lit × Go.DataW Unit)} {l : Sl} (h : Ties w I n es l) : ∀ q ∈ l, ∀ xs, q.2 = some xs → xs.length = n ∧ Octets xs := by
  induction h with
  | nil => exact fun q hq => (List.not_mem_nil hq).elim
  | @cons p q es l ht _ ih =>
    intro x hx xs e
    rcases List.mem_cons.1 hx with rfl | hx
    · have := ht.2
      rw [e] at this
      obtain ⟨g, c, _, h1, h2, _⟩ := this
      exact ⟨h1, h2⟩
    · exact ih x hx xs e
theorem whole_of {w : World} {I : Nat → Prop} {a mk mw : Nat} {s : Dv} (h : DvAt w I a mk mw s) : Whole s := by
  obtain ⟨es1, _, h1⟩ := h.k
  obtain ⟨es2, _, h2⟩ := h.wt
  intro i xs e
  unfold Dv.read at e
  split at e
  · cases congrArg Prod.snd e
  split at e
  · cases congrArg Prod.snd e
  split at e
  · rename_i ys hg
    injection e with e _
    subst e
    exact ties_rows h2 _ (mem_getS hg) _ rfl
  · split at e
    · injection e with e _
      subst e
      exact ⟨List.length_replicate, fun x hx => by rw [(List.mem_replicate.1 hx).2]; omega⟩
    · cases congrArg Prod.snd e
    · rename_i ys hg
      injection e with e _
      subst e
      exact ties_rows h1 _ (mem_getS hg) _ rfl

/-- The sector of a byte of a region, the byte, whether it can be read. -/
def secP (s : Dv) (F : Int) (p : Nat) : List Int × Int := s.read (F + (p / s.size : Nat))
def byteP (s : Dv) (F : Int) (p : Nat) : Int := (secP s F p).1.getD (p % s.size) 0
def rowP (s : Dv) (F : Int) (a k : Nat) : List Int := (List.range k).map (fun j => byteP s F (a + j))
def OkP (s : Dv) (F : Int) (a k : Nat) : Prop := ∀ j, j < k → (secP s F (a + j)).2 = 0
/-- What reading n bytes from a on gives. -/
def ReadsP (s : Dv) (F : Int) (a n : Nat) (r : List Int × Int) : Prop :=
  (∃ k, k < n ∧ OkP s F a k ∧ (secP s F (a + k)).2 ≠ 0 ∧ r = ([], (secP s F (a + k)).2)) ∨ (OkP s F a n ∧ r = (rowP s F a n, 0))
theorem reads_one {s : Dv} {F : Int} {a n : Nat} {r t : List Int × Int} (h : ReadsP s F a n r) (g : ReadsP s F a n t) : r = t := by
  rcases h with ⟨k, hk, h1, h2, rfl⟩ | ⟨h1, rfl⟩ <;> rcases g with ⟨l, hl, g1, g2, rfl⟩ | ⟨g1, rfl⟩
  · rcases Nat.lt_trichotomy k l with h | h | h
    · exact absurd (g1 k h) h2
    · rw [h]
    · exact absurd (h1 l h) g2
  · exact absurd (g1 k hk) h2
  · exact absurd (h1 l hl) g2
  · rfl
theorem rowP_length (s : Dv) (F : Int) (a k : Nat) : (rowP s F a k).length = k := by simp [rowP]
theorem rowP_add (s : Dv) (F : Int) (a k m : Nat) : rowP s F a (k + m) = rowP s F a k ++ rowP s F (a + k) m := by
  unfold rowP
  rw [List.range_add, List.map_append, List.map_map]
  congr 1
  refine List.map_congr_left fun j _ => ?_
  show byteP s F (a + (k + j)) = byteP s F (a + k + j)
  rw [Nat.add_assoc]
theorem in_sector {n p m j : Nat} (hm : m ≤ n - p % n) (hj : j < m) : (p + j) / n = p / n ∧ (p + j) % n = p % n + j := by
  rcases Nat.eq_zero_or_pos n with rfl | hn
  · simp at hm
    omega
  · have h1 := Nat.div_add_mod p n
    have h2 := Nat.mod_lt p hn
    have h3 : p + j = n * (p / n) + (p % n + j) := by omega
    refine ⟨?_, ?_⟩
    · rw [h3, Nat.mul_add_div hn, Nat.div_eq_of_lt (by omega : p % n + j < n), Nat.add_zero]
    · rw [h3, Nat.mul_add_mod, Nat.mod_eq_of_lt (by omega)]
theorem secP_same {s : Dv} {F : Int} {p m j : Nat} (hm : m ≤ s.size - p % s.size) (hj : j < m) : secP s F (p + j) = secP s F p := by
  unfold secP
  rw [(in_sector hm hj).1]
/-- A sector's piece. -/
theorem piece {s : Dv} {F : Int} {p m : Nat} {xs : List Int} (hx : xs.length = s.size) (h : secP s F p = (xs, 0)) (hm : m ≤ s.size - p % s.size) : (xs.drop (p % s.size)).take m = rowP s F p m := by
  apply List.ext_getElem
  · rw [List.length_take, List.length_drop, rowP_length, hx]
    omega
  · intro j h1 h1'
    have h2 := h1'
    rw [rowP_length] at h2
    have e : (rowP s F p m)[j]'h1' = byteP s F (p + j) := by simp [rowP]
    rw [e, List.getElem_take, List.getElem_drop]
    unfold byteP
    rw [secP_same hm h2, h, (in_sector hm h2).2]
    simp only
    rw [List.getD, List.getElem?_eq_getElem (by omega : p % s.size + j < xs.length)]
    rfl
theorem okP_add {s : Dv} {F : Int} {a k m : Nat} (h : OkP s F a k) (hm : m ≤ s.size - (a + k) % s.size) (h0 : (secP s F (a + k)).2 = 0) : OkP s F a (k + m) := by
  intro j hj
  by_cases hk : j < k
  · exact h j hk
  · have e : a + j = (a + k) + (j - k) := by omega
    rw [e, secP_same hm (by omega)]
    exact h0
theorem rowP_octets {s : Dv} {F : Int} (hw : Whole s) : ∀ {a k : Nat}, OkP s F a k → Octets (rowP s F a k) := by
  intro a k h x hx
  unfold rowP at hx
  obtain ⟨j, hj, rfl⟩ := List.mem_map.1 hx
  have h0 := h j (List.mem_range.1 hj)
  unfold byteP
  have hr := hw (F + ((a + j) / s.size : Nat)) (secP s F (a + j)).1 (by
    show secP s F (a + j) = _
    rw [← h0])
  rw [List.getD]
  cases hg : (secP s F (a + j)).1[(a + j) % s.size]? with
  | none => simp
  | some y => exact hr.2 y (List.mem_of_getElem? hg)
end Go.Proofs.YtpnodocjpedcmaaDoor.Pt
