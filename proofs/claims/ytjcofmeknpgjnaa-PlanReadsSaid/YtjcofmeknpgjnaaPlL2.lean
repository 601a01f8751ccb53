/-
  Layer 16, plan: what bytes tell of a plan: plain words. No program. No conditions beyond what each theorem names.
-/
import Derived.Test.YtjcofmeknpgjnaaPlL
namespace Go.Proofs.Ytjcofmeknpgjnaa.Pl
open Go.ChangeShapes Go.WideShapes Go.ChangeAt Go.RowKit Go.Proofs.Ytjcofmeknpgjnaa.Kit

/-- What was got ahead, and what the rest tells. -/
def joinG (acc : List Sq) : Except Int (List Sq) → Except Int (List Sq)
  | .error e => .error e
  | .ok qs => .ok (acc ++ qs)

/-- A plan (at most so many steps); or the first error. -/
def getG : Nat → List Int → Except Int (List Sq)
  | _, [] => .ok []
  | 0, _ :: _ => .error 0
  | f + 1, k :: l => match stepG (k :: l) with
    | .error e => .error e
    | .ok (q, r) => joinG [q] (getG f r)

theorem joinG_joinG (a b : List Sq) (x : Except Int (List Sq)) : joinG a (joinG b x) = joinG (a ++ b) x := by
  cases x <;> simp [joinG]

theorem getG_end (acc : List Sq) (f : Nat) : joinG acc (getG f []) = .ok acc := by
  cases f <;> simp [getG, joinG]
theorem getG_no {acc : List Sq} {f : Nat} {k e : Int} {l : List Int} (h : stepG (k :: l) = .error e) : joinG acc (getG (f + 1) (k :: l)) = .error e := by
  rw [getG, h]
  rfl
theorem getG_next {acc : List Sq} {f : Nat} {k : Int} {l r : List Int} {q : Sq} (h : stepG (k :: l) = .ok (q, r)) : joinG acc (getG (f + 1) (k :: l)) = joinG (acc ++ [q]) (getG f r) := by
  rw [getG, h]
  simp only
  rw [joinG_joinG]

theorem putQ_length (q : Sq) : 1 ≤ (putQ q).length := by
  unfold putQ
  simp

theorem stepG_less {l r : List Int} {q : Sq} (ho : Octets l) (h : stepG l = .ok (q, r)) : r.length < l.length ∧ Octets r := by
  obtain ⟨_, e⟩ := stepG_is ho h
  have := putQ_length q
  refine ⟨?_, octets_right (e ▸ ho)⟩
  rw [e, List.length_append]
  omega

def putsQ (qs : List Sq) : List Int := qs.flatMap putQ

theorem getG_of : ∀ (f : Nat) (qs : List Sq), qs.all rightQ = true → qs.length ≤ f → getG f (putsQ qs) = .ok qs
  | f, [], _, _ => by cases f <;> rfl
  | 0, _ :: _, _, h => by simp at h
  | f + 1, q :: qs, h, hl => by
    simp only [List.all_cons, Bool.and_eq_true] at h
    have hs := stepG_of (putsQ qs) h.1
    have hp : putsQ (q :: qs) = putQ q ++ putsQ qs := by simp [putsQ]
    have ih := getG_of f qs h.2 (by simp at hl; omega)
    rw [hp]
    cases hq : putQ q ++ putsQ qs with
    | nil =>
      have := putQ_length q
      have h0 := congrArg List.length hq
      rw [List.length_append, List.length_nil] at h0
      omega
    | cons k l =>
      rw [hq] at hs
      rw [getG, hs]
      simp only
      rw [ih]
      rfl

theorem getG_is : ∀ (f : Nat) (l : List Int) (qs : List Sq), Octets l → getG f l = .ok qs → l = putsQ qs ∧ qs.all rightQ = true
  | f, [], qs, _, h => by
    have : qs = [] := by cases f <;> (simp [getG] at h; exact h)
    subst this
    exact ⟨rfl, rfl⟩
  | 0, _ :: _, _, _, h => by simp [getG] at h
  | f + 1, k :: l, qs, ho, h => by
    rw [getG] at h
    cases hs : stepG (k :: l) with
    | error e => rw [hs] at h; cases h
    | ok y =>
      obtain ⟨q, r⟩ := y
      rw [hs] at h
      simp only at h
      obtain ⟨g1, g2⟩ := stepG_is ho hs
      cases hg : getG f r with
      | error e => rw [hg] at h; cases h
      | ok ps =>
        rw [hg] at h
        injection h with h
        subst h
        obtain ⟨k1, k2⟩ := getG_is f r ps (stepG_less ho hs).2 hg
        refine ⟨?_, ?_⟩
        · rw [g2, k1]
          simp [putsQ]
        · simp [g1, k2]
end Go.Proofs.Ytjcofmeknpgjnaa.Pl
