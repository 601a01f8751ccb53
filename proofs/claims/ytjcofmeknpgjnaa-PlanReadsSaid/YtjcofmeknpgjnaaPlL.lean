/-
  Layer 16, plan: what bytes tell of a step and of a plan: plain words. No program. No conditions beyond what each theorem names.
-/
import Derived.Test.YtjcofmeknpgjnaaPlK
namespace Go.Proofs.Ytjcofmeknpgjnaa.Pl
open Go.ChangeShapes Go.WideShapes Go.ChangeAt Go.RowKit Go.Proofs.Ytjcofmeknpgjnaa.Kit

/-- A step, wherever its bytes stand. -/
structure Sq where
  a : Int
  b : Int
  x : Int
  zs : List Int

def rightQ (s : Sq) : Bool := rightB s.a s.b s.x s.zs.length
def putQ (s : Sq) : List Int := [s.a] ++ numB s.x ++ (if s.a = 1 then [] else numB s.b) ++ s.zs

def lastG (k n f : Int) (r : List Int) : Except Int (Sq × List Int) :=
  if n < 1 ∨ 4096 < n ∨ 2147483647 < f then .error 13
  else if k = 2 then .ok (⟨k, f, n, []⟩, r)
  else if (r.length : Int) < n then .error 2
  else .ok (⟨k, f, n, r.take n.toNat⟩, r.drop n.toNat)

/-- A step, and what stands behind; or the error. -/
def stepG : List Int → Except Int (Sq × List Int)
  | [] => .error 2
  | k :: r => if k < 1 ∨ 3 < k then .error 13 else match numG 5 1 0 r with
    | .error e => .error e
    | .ok (n, r1) => if k = 1 then lastG k n 0 r1 else match numG 5 1 0 r1 with
      | .error e => .error e
      | .ok (f, r2) => lastG k n f r2

theorem num_of (x : Int) (r : List Int) (h : 0 ≤ x ∧ x < 34359738368) : numG 5 1 0 (numB x ++ r) = .ok (x, r) := by
  have := numG_of 5 8 1 0 x r h.1 (by rw [show (128 : Int) ^ 5 = 34359738368 by decide]; exact h.2) (by omega) (by omega) (.inr rfl)
  rw [show (0 : Int) + 1 * x = x by omega] at this
  exact this

theorem num_is {l : List Int} {x : Int} {r : List Int} (ho : Octets l) (h : numG 5 1 0 l = .ok (x, r)) : l = numB x ++ r ∧ 0 ≤ x ∧ x < 34359738368 := by
  obtain ⟨y, h1, h2, h3, _⟩ := numG_is 5 8 1 0 l x r ho (by omega) (by omega) h
  obtain rfl : x = y := by omega
  have := (numG_bd 5 1 0 l x r (by omega) ho h).2
  rw [show (128 : Int) ^ 5 = 34359738368 by decide] at this
  exact ⟨h2, h3, by omega⟩

theorem octets_right {l r : List Int} (h : Octets (l ++ r)) : Octets r := fun x hx => h x (List.mem_append_right _ hx)

theorem lastG_is {k n f : Int} {r r2 : List Int} {q : Sq} (hk : 1 ≤ k ∧ k ≤ 3) (hf : 0 ≤ f) (h1 : k = 1 → f = 0) (h : lastG k n f r = .ok (q, r2)) : rightQ q = true ∧ q.a = k ∧ q.b = f ∧ q.x = n ∧ r = q.zs ++ r2 := by
  unfold lastG at h
  by_cases hn : n < 1 ∨ 4096 < n ∨ 2147483647 < f
  · rw [if_pos hn] at h; cases h
  · rw [if_neg hn] at h
    by_cases h2 : k = 2
    · rw [if_pos h2] at h
      injection h with h
      injection h with e1 e2
      subst e1 e2
      refine ⟨?_, rfl, rfl, rfl, rfl⟩
      unfold rightQ rightB
      simp
      omega
    · rw [if_neg h2] at h
      by_cases h3 : (r.length : Int) < n
      · rw [if_pos h3] at h; cases h
      · rw [if_neg h3] at h
        injection h with h
        injection h with e1 e2
        subst e1 e2
        have hl : (r.take n.toNat).length = n.toNat := by rw [List.length_take]; omega
        refine ⟨?_, rfl, rfl, rfl, (List.take_append_drop _ _).symm⟩
        unfold rightQ rightB
        rw [hl]
        simp
        omega

/-- What is read as a step was written so, and is right. -/
theorem stepG_is {l r : List Int} {q : Sq} (ho : Octets l) (h : stepG l = .ok (q, r)) : rightQ q = true ∧ l = putQ q ++ r := by
  cases l with
  | nil => cases h
  | cons k l =>
    rw [stepG] at h
    by_cases hk : k < 1 ∨ 3 < k
    · rw [if_pos hk] at h; cases h
    · rw [if_neg hk] at h
      have ho2 : Octets l := fun x hx => ho x (List.mem_cons_of_mem _ hx)
      cases hn : numG 5 1 0 l with
      | error e => rw [hn] at h; cases h
      | ok y =>
        obtain ⟨n, r1⟩ := y
        rw [hn] at h
        simp only at h
        obtain ⟨e1, _, _⟩ := num_is ho2 hn
        have ho3 : Octets r1 := octets_right (e1 ▸ ho2)
        by_cases h1 : k = 1
        · rw [if_pos h1] at h
          obtain ⟨g1, g2, g3, g4, g5⟩ := lastG_is (by omega) (by omega) (fun _ => rfl) h
          refine ⟨g1, ?_⟩
          unfold putQ
          rw [g2, if_pos h1, g4, e1, g5]
          simp
        · rw [if_neg h1] at h
          cases hf : numG 5 1 0 r1 with
          | error e => rw [hf] at h; cases h
          | ok y =>
            obtain ⟨f, r2⟩ := y
            rw [hf] at h
            simp only at h
            obtain ⟨e2, k1, k2⟩ := num_is ho3 hf
            obtain ⟨g1, g2, g3, g4, g5⟩ := lastG_is (by omega) k1 (fun h => absurd h h1) h
            refine ⟨g1, ?_⟩
            unfold putQ
            rw [g2, if_neg h1, g3, g4, e1, e2, g5]
            simp

/-- What is right is read as it was written. -/
theorem stepG_of {q : Sq} (r : List Int) (h : rightQ q = true) : stepG (putQ q ++ r) = .ok (q, r) := by
  obtain ⟨a, b, x, zs⟩ := q
  unfold rightQ rightB at h
  have hr := of_decide_eq_true h
  simp only at hr
  have hx : 0 ≤ x ∧ x < 34359738368 := by omega
  have hb : 0 ≤ b ∧ b < 34359738368 := by omega
  have hlast : lastG a x b (zs ++ r) = .ok (⟨a, b, x, zs⟩, r) := by
    unfold lastG
    rw [if_neg (by omega)]
    by_cases h2 : a = 2
    · rw [if_pos h2]
      obtain rfl : zs = [] := List.length_eq_zero_iff.1 (by omega)
      rfl
    · rw [if_neg h2, if_neg (by simp; omega)]
      have : x.toNat = zs.length := by omega
      rw [this]
      simp
  unfold putQ
  simp only [List.cons_append, List.nil_append, List.append_assoc]
  rw [stepG, if_neg (by omega), num_of x _ hx]
  simp only
  by_cases h1 : a = 1
  · rw [if_pos h1, if_pos h1, List.nil_append]
    obtain rfl : b = 0 := by omega
    exact hlast
  · rw [if_neg h1, if_neg h1, num_of b _ hb]
    exact hlast
end Go.Proofs.Ytjcofmeknpgjnaa.Pl
