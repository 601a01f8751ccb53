/-
  Layer 15, match: what is found of any images: plain. Conditions: as each theorem names.
-/
import Derived.Test.YtlcnbepldkbkgaaMMxB
namespace Go.Proofs.Ytlcnbepldkbkgaa.Mx
open Go.Proofs.Ytlcnbepldkbkgaa.Sx Go.Proofs.Ytlcnbepldkbkgaa.Mt

def agreeP (xs ys : List Int) (o n j : Nat) : Bool := decide (xs.getD (o + j) 0 = ys.getD (n + j) 0)
theorem sameN_cnt (xs ys : List Int) (o n : Nat) : ∀ k, sameN xs ys o n k = cnt (agreeP xs ys o n) k
  | 0 => rfl
  | k + 1 => by
    have ih := sameN_cnt xs ys o n k
    show sameN xs ys o n k + (if xs[o + k]?.getD 0 = ys[n + k]?.getD 0 then 1 else 0) = cnt (agreeP xs ys o n) k + (if agreeP xs ys o n k = true then 1 else 0)
    rw [ih]
    congr 1
    by_cases h : xs[o + k]?.getD 0 = ys[n + k]?.getD 0
    · rw [if_pos h, if_pos (show agreeP xs ys o n k = true from decide_eq_true (by simpa [List.getD] using h))]
    · rw [if_neg h, if_neg (show ¬ agreeP xs ys o n k = true from fun e => h (by have e2 := of_decide_eq_true e; simpa [List.getD] using e2))]
theorem cnt_all {p : Nat → Bool} : ∀ k, (∀ j, j < k → p j = true) → cnt p k = k
  | 0, _ => rfl
  | k + 1, h => by
    show cnt p k + (if p k = true then 1 else 0) = k + 1
    rw [cnt_all k (fun j hj => h j (by omega)), if_pos (h k (by omega))]
theorem wide_half {xs ys : List Int} {n o l free back more : Nat} (h : WideOk xs ys n o l free back more) (hm : ∀ j, j < l → xs.getD (o + j) 0 = ys.getD (n + j) 0) :
    back + l + more ≤ 2 * sameN xs ys (o - back) (n - back) (back + l + more) := by
  rw [sameN_cnt, cnt_add, cnt_add]
  have e1 : cnt (agreeP xs ys (o - back) (n - back)) back = cnt (backP xs ys n o) back := by
    rw [← cnt_rev]
    refine cnt_congr _ fun j hj => ?_
    have := h.b1
    have := h.b2
    unfold agreeP backP
    rw [show o - back + (back - 1 - j) = o - 1 - j by omega, show n - back + (back - 1 - j) = n - 1 - j by omega]
    exact decide_eq_decide.2 eq_comm
  have e2 : cnt (fun j => agreeP xs ys (o - back) (n - back) (back + j)) l = l := by
    refine cnt_all _ fun j hj => ?_
    have := h.b1
    have := h.b2
    unfold agreeP
    rw [show o - back + (back + j) = o + j by omega, show n - back + (back + j) = n + j by omega]
    exact decide_eq_true (hm j hj)
  have e3 : cnt (fun j => agreeP xs ys (o - back) (n - back) (back + l + j)) more = cnt (moreP xs ys n o l) more := by
    refine cnt_congr _ fun j hj => ?_
    have := h.b1
    have := h.b2
    unfold agreeP moreP
    rw [show o - back + (back + l + j) = o + l + j by omega, show n - back + (back + l + j) = n + l + j by omega]
    exact decide_eq_decide.2 eq_comm
  rw [e1, e2, e3]
  have := h.b3
  have := h.m3
  omega

/-! ### Pieces one behind another -/
def runL (old new : Int) : Int → List Pc → Int → Prop
  | e, [], f => e ≤ f
  | e, p :: ps, f => oneB old new p = true ∧ e ≤ p.n ∧ runL old new (p.n + p.l) ps f
theorem runL_snoc {old new : Int} {p : Pc} {g : Int} (h1 : oneB old new p = true) (h3 : p.n + p.l ≤ g) : ∀ {ps : List Pc} {e f : Int}, runL old new e ps f → f ≤ p.n → runL old new e (ps ++ [p]) g
  | [], e, f, h, h2 => ⟨h1, by unfold runL at h; omega, h3⟩
  | q :: qs, e, f, h, h2 => ⟨h.1, h.2.1, runL_snoc h1 h3 h.2.2 h2⟩
theorem runL_may {old new : Int} : ∀ {ps : List Pc} {e f : Int}, runL old new e ps f → mayL old new e ps = true
  | [], _, _, _ => rfl
  | p :: ps, _, _, h => by rw [mayL_good h.1 h.2.1]; exact runL_may h.2.2
/-- What stands in the list when all before place i has been looked at. -/
structure FoundL (xs ys : List Int) (ps : List Pc) (e i : Nat) : Prop where
  run : runL xs.length ys.length 0 ps e
  half : ∀ p ∈ ps, p.l ≤ 2 * (sameN xs ys p.o.toNat p.n.toNat p.l.toNat : Int)
  cover : ∀ j, j < i → (∃ p ∈ ps, p.n ≤ (j : Int) ∧ (j : Int) < p.n + p.l) ∨ ∀ k, k < xs.length → comL (xs.drop k) (ys.drop j) < 16
  ei : e ≤ i
  iy : i ≤ ys.length
  few : ps.length ≤ i
theorem FoundL.nil (xs ys : List Int) : FoundL xs ys [] 0 0 := ⟨Int.le_refl _, by simp, fun j hj => absurd hj (by omega), Nat.le_refl _, Nat.zero_le _, Nat.zero_le _⟩
theorem FoundL.skip {xs ys : List Int} {ps : List Pc} {e i at_ most : Nat} (h : FoundL xs ys ps e i) (hi : i < ys.length) (hf : FoundB xs (ys.drop i) at_ most) (hs : most < 16) : FoundL xs ys ps e (i + 1) := by
  refine ⟨h.run, h.half, fun j hj => ?_, by have := h.ei; omega, hi, by have := h.few; omega⟩
  by_cases hji : j < i
  · exact h.cover j hji
  · obtain rfl : j = i := by omega
    exact .inr fun k hk => by have := hf.mx k hk; omega
theorem getD_drop' (xs : List Int) (o j : Nat) : (xs.drop o).getD j 0 = xs.getD (o + j) 0 := by simp [List.getD]
theorem FoundL.take {xs ys : List Int} {ps : List Pc} {e i o l back more : Nat} (h : FoundL xs ys ps e i) (hi : i < ys.length) (hf : FoundB xs (ys.drop i) o l) (hl : 16 ≤ l) (hw : WideOk xs ys i o l e back more) :
    FoundL xs ys (ps ++ [⟨((i - back : Nat) : Int), ((o - back : Nat) : Int), ((back + l + more : Nat) : Int)⟩]) (i + l + more) (i + l + more) := by
  have hc := hf.lt (by omega)
  have hm : ∀ j, j < l → xs.getD (o + j) 0 = ys.getD (i + j) 0 := fun j hj => by
    have := comL_get (xs.drop o) (ys.drop i) j (by omega)
    rwa [getD_drop', getD_drop'] at this
  have hhalf := wide_half hw hm
  have b1 := hw.b1
  have b2 := hw.b2
  have m1 := hw.m1
  have m2 := hw.m2
  have hone : oneB xs.length ys.length ⟨((i - back : Nat) : Int), ((o - back : Nat) : Int), ((back + l + more : Nat) : Int)⟩ = true := by
    unfold oneB
    refine decide_eq_true ?_
    simp only
    omega
  refine ⟨runL_snoc hone (by simp only; omega) h.run (by simp only; omega), fun p hp => ?_, fun j hj => ?_, Nat.le_refl _, by omega, ?_⟩
  · rcases List.mem_append.1 hp with hp | hp
    · exact h.half p hp
    · obtain rfl : p = _ := by simpa using hp
      show ((back + l + more : Nat) : Int) ≤ 2 * (sameN xs ys ((o - back : Nat) : Int).toNat ((i - back : Nat) : Int).toNat ((back + l + more : Nat) : Int).toNat : Int)
      rw [Int.toNat_natCast, Int.toNat_natCast, Int.toNat_natCast]
      omega
  · by_cases hji : j < i
    · rcases h.cover j hji with ⟨p, hp, h1⟩ | h1
      · exact .inl ⟨p, List.mem_append_left _ hp, h1⟩
      · exact .inr h1
    · exact .inl ⟨_, List.mem_append_right _ (List.mem_singleton.2 rfl), by simp only; omega, by simp only; omega⟩
  · have := h.few
    simp
    omega
/-- A row of 32 that the old image has too is met by a piece. -/
theorem FoundL.met {xs ys : List Int} {ps : List Pc} {e t k : Nat} (h : FoundL xs ys ps e ys.length) (ht : t + 32 ≤ ys.length) (hk : k + 32 ≤ xs.length) (hq : ∀ j, j < 32 → xs.getD (k + j) 0 = ys.getD (t + j) 0) :
    ∃ p ∈ ps, p.n < (t : Int) + 32 ∧ (t : Int) < p.n + p.l := by
  rcases h.cover t (by omega) with ⟨p, hp, h1, h2⟩ | h1
  · exact ⟨p, hp, by omega, h2⟩
  · have h2 := h1 k (by omega)
    have h3 := comL_ge 32 (xs.drop k) (ys.drop t) (by simp; omega) (by simp; omega) (fun j hj => by rw [getD_drop', getD_drop']; exact hq j hj)
    omega
/-- An image and the same one: one piece. -/
theorem found_one {xs ys : List Int} (he : xs = ys) (h0 : 0 < ys.length) : FoundL xs ys [⟨0, 0, ys.length⟩] ys.length ys.length := by
  subst he
  have hone : oneB xs.length xs.length ⟨0, 0, xs.length⟩ = true := by
    unfold oneB
    exact decide_eq_true (by simp only; omega)
  have hs : sameN xs xs 0 0 xs.length = xs.length := by
    rw [sameN_cnt]
    exact cnt_all _ fun j _ => by unfold agreeP; exact decide_eq_true rfl
  refine ⟨⟨hone, Int.le_refl _, by simp only [runL]; omega⟩, fun p hp => ?_, fun j hj => .inl ⟨_, List.mem_singleton.2 rfl, by simp only; omega, by simp only; omega⟩, Nat.le_refl _, Nat.le_refl _, h0⟩
  obtain rfl : p = _ := by simpa using hp
  simp only [Int.toNat_natCast, Int.toNat_zero, hs]
  omega
end Go.Proofs.Ytlcnbepldkbkgaa.Mx
