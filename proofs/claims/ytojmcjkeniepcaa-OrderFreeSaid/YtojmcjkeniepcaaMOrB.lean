/-
  Layer 19: whether an order is right, told in two ways: plain. Conditions: as each theorem names.
-/
import Derived.Test.YtojmcjkeniepcaaMOrA
import Derived.Test.YtojmcjkeniepcaaMGOree0
namespace Go.Proofs.Ytojmcjkeniepcaa.Ord
open Go.ChangeShapes Go.WideShapes Go.ChangeAt Go.RowKit Go.Proofs.Ytojmcjkeniepcaa.Kit Go.Proofs.Ytojmcjkeniepcaa.Gr Go.Proofs.Ytojmcjkeniepcaa.Ordr

/-- So many, and each number is there: each once, and no other. -/
theorem order_all : ∀ (n : Nat) (l : List Int), l.length = n → (∀ i : Nat, i < n → (i : Int) ∈ l) → OrderOk l n
  | 0, l, h, _ => by
    obtain rfl : l = [] := List.eq_nil_of_length_eq_zero h
    exact ⟨rfl, by simp, List.nodup_nil⟩
  | n + 1, l, h, hc => by
    have hn : (n : Int) ∈ l := hc n (by omega)
    obtain ⟨h1, h2, h3⟩ := order_all n (l.erase n) (by rw [List.length_erase_of_mem hn]; omega) fun i hi => (List.mem_erase_of_ne (by omega)).2 (hc i (by omega))
    have hp := List.perm_cons_erase hn
    have hnot : (n : Int) ∉ l.erase n := fun hm => by have := h2 _ hm; omega
    refine ⟨h, fun x hx => ?_, ?_⟩
    · rcases List.mem_cons.1 (hp.mem_iff.1 hx) with rfl | hx
      · omega
      · have := h2 x hx; omega
    · exact hp.nodup_iff.2 (List.nodup_cons.2 ⟨hnot, h3⟩)

theorem goR_all (L : List (List Int)) (b : List Int) : ∀ (r l : List Int), goR L b l r = true ↔ ∀ k (h : k < r.length), StepOk L b (l ++ r.take k) r[k]
  | [], l => by simp [goR]
  | x :: r, l => by
    unfold goR
    rw [Bool.and_eq_true, decide_eq_true_iff, goR_all L b r (l ++ [x])]
    constructor
    · rintro ⟨h1, h2⟩ k hk
      cases k with
      | zero => simpa using h1
      | succ k => simpa using h2 k (by simpa using hk)
    · intro h
      refine ⟨?_, fun k hk => ?_⟩
      · have h0 : StepOk L b (l ++ []) x := h 0 (by simp)
        rwa [List.append_nil] at h0
      · have h1 : StepOk L b (l ++ x :: r.take k) r[k] := h (k + 1) (by simpa using hk)
        rw [List.append_assoc]
        exact h1

/-- The document's word: none is ahead of one that reads it, where that isn't broken. -/
def PairOk (L : List (List Int)) (o b : List Int) (i m : Nat) : Prop := i < m → o.getD i 0 ∈ L.getD (o.getD m 0).toNat [] → o.getD m 0 ∈ b
theorem getD_at {o : List Int} {i : Nat} (h : i < o.length) : o.getD i 0 = o[i] := by simp [List.getD, List.getElem?_eq_getElem h]
theorem right_two {L : List (List Int)} {o b : List Int} (hR : RightL L) (hl : o.length = L.length) : goR L b [] o = true ↔ (∀ k : Nat, k < L.length → (k : Int) ∈ o) ∧ ∀ i m : Nat, i < o.length → m < o.length → PairOk L o b i m := by
  rw [goR_all]
  simp only [List.nil_append]
  constructor
  · intro h
    have hnd : o.Nodup := by
      rw [List.nodup_iff_pairwise_ne, List.pairwise_iff_getElem]
      intro i j hi hj hij e
      refine (h j hj).2.2.1 ?_
      rw [← e, List.mem_take_iff_getElem]
      exact ⟨i, by omega, rfl⟩
    have hok : OrderOk o L.length := ⟨hl, fun x hx => by obtain ⟨k, hk, rfl⟩ := List.getElem_of_mem hx; exact ⟨(h k hk).1, (h k hk).2.1⟩, hnd⟩
    refine ⟨fun k hk => order_has _ _ hok k hk, fun i m hi hm him hmem => ?_⟩
    rw [getD_at hi, getD_at hm] at hmem
    rw [getD_at hm]
    have h1 := h i hi
    have h2 := h m hm
    have := h1.2.2.2 o[m] (mem_turnTo.2 ⟨o[m].toNat, by have := h2.1; have := h2.2.1; omega, by have := h2.1; omega, by
      rw [Int.toNat_of_nonneg h1.1]; exact hmem⟩)
    rcases this with ht | hb
    · exfalso
      obtain ⟨j, hj, e⟩ := List.mem_take_iff_getElem.1 ht
      exact absurd e (by
        have := (List.pairwise_iff_getElem.1 (List.nodup_iff_pairwise_ne.1 hnd)) j m (by omega) hm (by omega)
        exact this)
    · exact hb
  · rintro ⟨h1, h2⟩ k hk
    have hok := order_all _ _ hl h1
    have hr := hok.2.1 o[k] (List.getElem_mem hk)
    refine ⟨hr.1, hr.2, fun ht => ?_, fun r hr2 => ?_⟩
    · obtain ⟨j, hj, e⟩ := List.mem_take_iff_getElem.1 ht
      exact (List.pairwise_iff_getElem.1 (List.nodup_iff_pairwise_ne.1 hok.2.2)) j k (by omega) hk (by omega) e
    · obtain ⟨r', hr3, rfl, hm⟩ := mem_turnTo.1 hr2
      rw [Int.toNat_of_nonneg hr.1] at hm
      obtain ⟨m, hm2, e⟩ := List.getElem_of_mem (h1 r' hr3)
      rcases Nat.lt_trichotomy m k with hmk | hmk | hmk
      · left
        rw [← e, List.mem_take_iff_getElem]
        exact ⟨m, by omega, rfl⟩
      · exfalso
        subst hmk
        rw [e] at hm
        obtain ⟨q, hq, e2⟩ := List.getElem_of_mem hm
        have := (hR.2 r' hr3) q hq
        unfold GoodAt at this
        rw [getD_at hq] at this
        omega
      · right
        have := h2 k m hk hm2 hmk
        rw [getD_at hk, getD_at hm2, e, Int.toNat_natCast] at this
        exact this hm
end Go.Proofs.Ytojmcjkeniepcaa.Ord
