/-
  Layer 16, plan: the document's reading of a step: for all bytes. Conditions: as each theorem names.
-/
import Derived.Test.YtjcofmeknpgjnaaPlD3
namespace Go.Proofs.Ytjcofmeknpgjnaa.Pl
open Go.ChangeShapes Go.WideShapes Go.ChangeAt Go.RowKit Go.Proofs.Ytjcofmeknpgjnaa.Kit

theorem dstep_any (B : Nat) (A : Option Addr) (xs : List Int) (c at_ : Nat) (w : World) (hl : xs.length ≤ 1000000) (hc : xs.length ≤ c) (hm : c ≤ maxLen) (ho : Octets xs) (hr : Holds w B .u8 A xs) (hB : B ≤ w.heap.size) (hat : at_ < xs.length) :
    Calls Try.prog 25 #[.slice A xs.length c, .int .i64 at_] w (DTold B xs.length w (stepG (xs.drop at_))) := by
  have hr' := hr
  obtain ⟨b, off, rfl, hbB, _⟩ := hr' (by omega)
  have hb : b < w.heap.size := Nat.lt_of_lt_of_le hbB hB
  obtain ⟨k, l, hd⟩ : ∃ k l, xs.drop at_ = k :: l := ⟨_, _, List.drop_eq_getElem_cons hat⟩
  have ho1 : Octets l := by
    have : Octets (xs.drop at_) := ho.tail at_
    rw [hd] at this
    exact fun x hx => this x (List.mem_cons_of_mem _ hx)
  rw [hd, stepG]
  by_cases hk : k < 1 ∨ 3 < k
  · rw [if_pos hk]
    rcases hk with hk | hk
    · exact dstep_low B b off xs c at_ k l w hl hc hm ho hr hB hb hd hk
    · exact dstep_high B b off xs c at_ k l w hl hc hm ho hr hB hb hd hk
  · rw [if_neg hk]
    cases hn : numG 5 1 0 l with
    | error e => exact dstep_first B b off xs c at_ k l w hl hc hm ho hr hB hb hd (by omega) e hn
    | ok y =>
      obtain ⟨n, r1⟩ := y
      obtain ⟨e1, n0, _⟩ := num_is ho1 hn
      have ho2 : Octets r1 := octets_right (e1 ▸ ho1)
      simp only
      by_cases h1 : k = 1
      · rw [if_pos h1]
        unfold lastG
        by_cases hb' : n < 1 ∨ 4096 < n ∨ (2147483647 : Int) < 0
        · rw [if_pos hb']
          exact dstep_wide B b off xs c at_ k l w hl hc hm ho hr hB hb hd n r1 hn h1 (by omega)
        · rw [if_neg hb', if_neg (by omega)]
          by_cases hs : (r1.length : Int) < n
          · rw [if_pos hs]
            exact dstep_short B b off xs c at_ k l w hl hc hm ho hr hB hb hd n r1 hn h1 (by omega) hs
          · rw [if_neg hs]
            obtain ⟨ys, r9, rfl, rfl, e3, e4⟩ := split_at_ (by omega) hs
            rw [e3, e4]
            exact dstep_lit B b off xs c at_ k l w hl hc hm ho hr hB hb hd ys r9 hn h1 (by omega)
      · rw [if_neg h1]
        cases hf : numG 5 1 0 r1 with
        | error e => exact dstep_second B b off xs c at_ k l w hl hc hm ho hr hB hb hd n r1 hn (by omega) e hf
        | ok y =>
          obtain ⟨f, r2⟩ := y
          obtain ⟨e2, f0, _⟩ := num_is ho2 hf
          simp only
          unfold lastG
          by_cases hb' : n < 1 ∨ 4096 < n ∨ 2147483647 < f
          · rw [if_pos hb']
            exact dstep_wide2 B b off xs c at_ k l w hl hc hm ho hr hB hb hd n r1 hn f r2 hf (by omega) (by omega)
          · rw [if_neg hb']
            by_cases h2 : k = 2
            · rw [if_pos h2]
              exact dstep_copy B b off xs c at_ k l w hl hc hm ho hr hB hb hd n r1 hn f r2 hf h2 (by omega) (by omega)
            · rw [if_neg h2]
              by_cases hs : (r2.length : Int) < n
              · rw [if_pos hs]
                exact dstep_short2 B b off xs c at_ k l w hl hc hm ho hr hB hb hd n r1 hn f r2 hf (by omega) (by omega) (by omega) hs
              · rw [if_neg hs]
                obtain ⟨ys, r9, rfl, rfl, e3, e4⟩ := split_at_ (by omega) hs
                rw [e3, e4]
                exact dstep_add B b off xs c at_ k l w hl hc hm ho hr hB hb hd ys r1 hn f r9 hf (by omega) (by omega) (by omega)
end Go.Proofs.Ytjcofmeknpgjnaa.Pl
