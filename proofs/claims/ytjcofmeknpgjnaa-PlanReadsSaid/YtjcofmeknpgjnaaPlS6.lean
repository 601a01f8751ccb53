/-
  Layer 16, plan: what takes a step of a writing: for all bytes. Conditions: as each theorem names.
-/
import Derived.Test.YtjcofmeknpgjnaaPlS5
namespace Go.Proofs.Ytjcofmeknpgjnaa.Pl
open Go.ChangeShapes Go.WideShapes Go.ChangeAt Go.RowKit Go.Proofs.Ytjcofmeknpgjnaa.Kit

theorem split_at_ {l : List Int} {n : Int} (h1 : 1 ≤ n) (h2 : ¬ (l.length : Int) < n) : ∃ ys r : List Int, l = ys ++ r ∧ n = ys.length ∧ l.take n.toNat = ys ∧ l.drop n.toNat = r :=
  ⟨l.take n.toNat, l.drop n.toNat, (List.take_append_drop _ _).symm, by rw [List.length_take]; omega, rfl, rfl⟩

theorem step_any (B r : Nat) (k : Int) (l : List Int) (w : World) (h : Rest w B r (k :: l)) (hB : B ≤ w.heap.size) (hr : r < w.heap.size) (hl : l.length ≤ 999999) (ho : Octets l) :
    Calls Try.prog 24 #[.pointer (some ⟨r, 0, none⟩)] w (StepTold B r w (stepG (k :: l))) := by
  rw [stepG]
  by_cases hk : k < 1 ∨ 3 < k
  · rw [if_pos hk]
    exact step_bad B r k l w h hB hr hl hk
  · rw [if_neg hk]
    cases hn : numG 5 1 0 l with
    | error e => exact step_first B r k l e w h hB hr hl ho (by omega) hn
    | ok y =>
      obtain ⟨n, r1⟩ := y
      obtain ⟨e1, n0, _⟩ := num_is ho hn
      have ho1 : Octets r1 := octets_right (e1 ▸ ho)
      have hl1 : r1.length ≤ l.length := by rw [e1]; simp
      simp only
      by_cases h1 : k = 1
      · rw [if_pos h1]
        unfold lastG
        by_cases hb : n < 1 ∨ 4096 < n ∨ (2147483647 : Int) < 0
        · rw [if_pos hb]
          exact step_wide B r k l n r1 w h hB hr hl ho hn (by omega) ho1 h1 (by omega)
        · rw [if_neg hb, if_neg (by omega)]
          by_cases hs : (r1.length : Int) < n
          · rw [if_pos hs]
            exact step_short B r k l n r1 w h hB hr hl ho hn (by omega) ho1 h1 (by omega) hs
          · rw [if_neg hs]
            obtain ⟨ys, r2, rfl, rfl, e3, e4⟩ := split_at_ (by omega) hs
            rw [e3, e4]
            subst h1
            exact step_lit B r 1 l ys r2 w h hB hr hl ho hn (by omega) (by omega) rfl
      · rw [if_neg h1]
        cases hf : numG 5 1 0 r1 with
        | error e => exact step_second B r k l n r1 e w h hB hr hl ho hn (by omega) ho1 (by omega) hf
        | ok y =>
          obtain ⟨f, r2⟩ := y
          obtain ⟨e2, f0, _⟩ := num_is ho1 hf
          have hl2 : r2.length ≤ r1.length := by rw [e2]; simp
          simp only
          unfold lastG
          by_cases hb : n < 1 ∨ 4096 < n ∨ 2147483647 < f
          · rw [if_pos hb]
            exact step_wide2 B r k l n r1 f r2 w h hB hr hl ho hn (by omega) ho1 (by omega) hf (by omega)
          · rw [if_neg hb]
            by_cases h2 : k = 2
            · rw [if_pos h2]
              subst h2
              exact step_copy B r 2 l n r1 f r2 w h hB hr hl ho hn (by omega) ho1 rfl hf (by omega) (by omega)
            · rw [if_neg h2]
              by_cases hs : (r2.length : Int) < n
              · rw [if_pos hs]
                exact step_short2 B r k l n r1 f r2 w h hB hr hl ho hn (by omega) ho1 (by omega) hf (by omega) (by omega) (by omega) hs
              · rw [if_neg hs]
                obtain ⟨ys, r3, rfl, rfl, e3, e4⟩ := split_at_ (by omega) hs
                rw [e3, e4]
                obtain rfl : k = 3 := by omega
                exact step_add B r 3 l ys r3 f r1 w h hB hr hl ho hn (by omega) (by omega) rfl (by omega) ho1 hf (by omega)
end Go.Proofs.Ytjcofmeknpgjnaa.Pl
