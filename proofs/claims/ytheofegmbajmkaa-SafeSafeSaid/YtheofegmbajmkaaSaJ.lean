/-
  Layer 20, safe: what plans make in place: plain, and copy into a block's middle. Conditions: as each theorem names.
-/
import Derived.Test.YtheofegmbajmkaaSaI
import Derived.Test.YtheofegmbajmkaaPlQ
namespace Go.Proofs.Ytheofegmbajmkaa.Sa
open Go.ChangeShapes Go.WideShapes Go.ChangeAt Go.RowKit Go.Proofs.Ytheofegmbajmkaa.Kit Go.Proofs.Ytheofegmbajmkaa.Ordr Go.Proofs.Ytheofegmbajmkaa.Blk Go.Proofs.Ytheofegmbajmkaa.Pl

theorem made_len {old : List Int} {s : Stp} {a : List Int} (hr : rightS s = true) (h : madeO (some old) s = some a) : (a.length : Int) = s.x := by
  have hf := right_facts hr
  unfold madeO at h
  split at h
  · injection h with h
    subst h
    omega
  · rename_i ha
    simp only at h
    split at h
    · rename_i hok
      injection h with h
      subst h
      unfold okRange at hok
      have := of_decide_eq_true hok
      simp only [addB, rangeB, List.length_map, List.length_range, List.length_take, List.length_drop]
      omega
    · cases h
theorem eval_len {old : List Int} : ∀ {ss : List Stp} {zs : List Int}, ss.all rightS = true → evalO (some old) ss = some zs → (zs.length : Int) = Pl.sumX ss
  | [], zs, _, h => by simp [evalO] at h; subst h; simp [Pl.sumX]
  | s :: ss, zs, hr, h => by
    simp only [List.all_cons, Bool.and_eq_true] at hr
    unfold evalO at h
    cases hm : madeO (some old) s with
    | none => rw [hm] at h; simp at h
    | some a =>
      cases he : evalO (some old) ss with
      | none => rw [hm, he] at h; simp at h
      | some b =>
        rw [hm, he] at h
        simp only [Option.some.injEq] at h
        subst h
        have h1 := made_len hr.1 hm
        have h2 := eval_len hr.2 he
        simp only [Pl.sumX, List.map_cons, List.sum_cons, List.length_append] at h2 ⊢
        push_cast
        omega
theorem made_oct {old : List Int} {s : Stp} {a : List Int} (ho : Octets s.zs) (h : madeO (some old) s = some a) : Octets a := by
  unfold madeO at h
  split at h
  · injection h with h
    subst h
    exact ho
  · simp only at h
    split at h
    · injection h with h
      subst h
      intro x hx
      obtain ⟨j, _, rfl⟩ := List.mem_map.1 hx
      omega
    · cases h
theorem eval_oct {old : List Int} : ∀ {ss : List Stp} {zs : List Int}, (∀ s ∈ ss, Octets s.zs) → evalO (some old) ss = some zs → Octets zs
  | [], zs, _, h => by simp [evalO] at h; subst h; intro x hx; simp at hx
  | s :: ss, zs, ho, h => by
    unfold evalO at h
    cases hm : madeO (some old) s with
    | none => rw [hm] at h; simp at h
    | some a =>
      cases he : evalO (some old) ss with
      | none => rw [hm, he] at h; simp at h
      | some b =>
        rw [hm, he] at h
        simp only [Option.some.injEq] at h
        subst h
        have h1 := made_oct (ho s (by simp)) hm
        have h2 := eval_oct (fun t ht => ho t (by simp [ht])) he
        intro x hx
        rcases List.mem_append.1 hx with hx | hx
        · exact h1 x hx
        · exact h2 x hx
/-- Without an error there are just so many bytes. -/
theorem evalE_ok {old : List Int} {ss : List Stp} {want : Int} (ho : ∀ s ∈ ss, Octets s.zs) (h : (evalE (some old) ss want).2 = 0) : ((evalE (some old) ss want).1.length : Int) = want ∧ Octets (evalE (some old) ss want).1 := by
  unfold evalE at h ⊢
  split at h
  · cases h
  · rename_i h1
    rw [if_neg h1]
    split at h
    · cases h
    · rename_i h2
      rw [if_neg h2]
      split at h
      · cases h
      · rename_i zs he
        have hr : ss.all rightS = true := by simpa using h1
        have := eval_len hr he
        exact ⟨by simp only; rw [this]; exact Classical.not_not.1 h2, eval_oct ho he⟩
/-- With one there are none. -/
theorem evalE_no {old : List Int} {ss : List Stp} {want : Int} (h : (evalE (some old) ss want).2 ≠ 0) : (evalE (some old) ss want).1 = [] := by
  unfold evalE at h ⊢
  split
  · rfl
  · rename_i h1
    rw [if_neg h1] at h
    split
    · rfl
    · rename_i h2
      rw [if_neg h2] at h
      split
      · rfl
      · rename_i zs he
        rw [he] at h
        exact absurd rfl h

/-- Zeros behind, up to so many. -/
def pad (I : List Int) (n : Nat) : List Int := I ++ List.replicate (n - I.length) 0
theorem pad_length (I : List Int) (n : Nat) : (pad I n).length = max I.length n := by
  unfold pad; simp; omega
theorem pad_pad (I : List Int) {m n : Nat} (h : m ≤ n) : pad (pad I m) n = pad I n := by
  unfold pad
  rw [List.append_assoc, List.replicate_append_replicate, List.length_append, List.length_replicate]
  congr 2
  omega
theorem pad_take (I : List Int) (n : Nat) {k : Nat} (h : k ≤ I.length) : (pad I n).take k = I.take k := by
  unfold pad
  rw [List.take_append_of_le_length h]
theorem pad_drop (I : List Int) (n : Nat) {k : Nat} (h : k ≤ I.length) : (pad I n).drop k = I.drop k ++ List.replicate (n - I.length) 0 := by
  unfold pad
  rw [List.drop_append_of_le_length h]
theorem pad_oct {I : List Int} (h : Octets I) (n : Nat) : Octets (pad I n) := by
  intro x hx
  rcases List.mem_append.1 hx with hx | hx
  · exact h x hx
  · rw [List.eq_of_mem_replicate hx]; omega
/-- Bytes put in at a place. -/
def putAt (L : List Int) (p : Nat) (x : List Int) : List Int := L.take p ++ (x ++ L.drop (p + x.length))
theorem putAt_length {L x : List Int} {p : Nat} (h : p + x.length ≤ L.length) : (putAt L p x).length = L.length := by
  unfold putAt; simp; omega
theorem putAt_oct {L x : List Int} (p : Nat) (hL : Octets L) (hx : Octets x) : Octets (putAt L p x) := by
  intro z hz
  rcases List.mem_append.1 hz with hz | hz
  · exact hL z (List.mem_of_mem_take hz)
  · rcases List.mem_append.1 hz with hz | hz
    · exact hx z hz
    · exact hL z (List.mem_of_mem_drop hz)
/-- The document's word on it: zeros between. -/
def writeL (I : List Int) (p : Nat) (x : List Int) : List Int := putAt (pad I (p + x.length)) p x
theorem writeL_length (I : List Int) (p : Nat) (x : List Int) : (writeL I p x).length = max I.length (p + x.length) := by
  unfold writeL
  rw [putAt_length (by rw [pad_length]; omega), pad_length]
theorem writeL_pad (I : List Int) (p : Nat) (x : List Int) {M : Nat} (h : p + x.length ≤ M) : pad (writeL I p x) M = putAt (pad I M) p x := by
  have h1 : pad I M = pad (pad I (p + x.length)) M := (pad_pad I h).symm
  have h2 : (pad I (p + x.length)).length = max I.length (p + x.length) := pad_length _ _
  have h3 : (writeL I p x).length = (pad I (p + x.length)).length := by rw [writeL_length, h2]
  rw [h1]
  unfold putAt
  rw [pad_take _ _ (by omega), pad_drop _ _ (by omega)]
  show writeL I p x ++ List.replicate (M - (writeL I p x).length) 0 = _
  rw [h3]
  unfold writeL putAt
  simp [List.append_assoc]

/-- The plans done in the order, on bytes of full length. -/
def goF (ps : List Plan) (lb : Nat) (bl new : Int) : List Int → List Int → List Int × Int
  | L, [] => (L.take new.toNat, 0)
  | L, i :: r => if (evalE (some (L.take lb)) (planS ps i) (sizeE i bl new)).2 = 0 then goF ps lb bl new (putAt L (i * bl).toNat (evalE (some (L.take lb)) (planS ps i) (sizeE i bl new)).1) r
    else ([], (evalE (some (L.take lb)) (planS ps i) (sizeE i bl new)).2)
theorem goF_step (ps : List Plan) (lb : Nat) (bl new : Int) (L xs : List Int) {k : Nat} (h : k < xs.length) : goF ps lb bl new L (xs.drop k) =
    if (evalE (some (L.take lb)) (planS ps (xs.getD k 0)) (sizeE (xs.getD k 0) bl new)).2 = 0 then goF ps lb bl new (putAt L (xs.getD k 0 * bl).toNat (evalE (some (L.take lb)) (planS ps (xs.getD k 0)) (sizeE (xs.getD k 0) bl new)).1) (xs.drop (k + 1))
    else ([], (evalE (some (L.take lb)) (planS ps (xs.getD k 0)) (sizeE (xs.getD k 0) bl new)).2) := by
  have e : xs.getD k 0 = xs[k] := by simp [List.getD, List.getElem?_eq_getElem h]
  rw [List.drop_eq_getElem_cons h, e]
  rfl
theorem goF_end (ps : List Plan) (lb : Nat) (bl new : Int) (L xs : List Int) : goF ps lb bl new L (xs.drop xs.length) = (L.take new.toNat, 0) := by
  rw [List.drop_length]; rfl
def foldE (b : List Int) (ps : List Plan) (xs : List Int) (bl new : Int) : List Int × Int :=
  if aheadE ps.length xs bl b.length new = 0 then goF ps b.length bl new (pad b (max b.length new.toNat)) xs else ([], aheadE ps.length xs bl b.length new)

/-- A block that is there lies within the new image. -/
theorem size_in {np : Nat} {xs : List Int} {bl old new : Int} (h : aheadE np xs bl old new = 0) {i : Int} (hi : i ∈ xs) : 0 ≤ i * bl ∧ 1 ≤ sizeE i bl new ∧ sizeE i bl new ≤ bl ∧ i * bl + sizeE i bl new ≤ new := by
  obtain ⟨hA, hO⟩ := ahead_zero h
  have hb := hO.2.1 i hi
  unfold aheadE at h
  rw [if_pos hA] at h
  have hq : (np : Int) = blocks new bl := by
    split at h
    · rename_i h1; exact h1
    · cases h
  unfold ArgOk at hA
  have hn : 1 ≤ new := by
    rcases Int.lt_or_le new 1 with h1 | h1
    · have := (blocks_bd new bl).2.2.1 h1; omega
    · exact h1
  unfold blocks at hq
  rw [if_neg (by omega)] at hq
  have h1 := Int.mul_ediv_add_emod new bl
  have h2 := Int.emod_nonneg new (show bl ≠ 0 by omega)
  have h0 : 0 ≤ i * bl := Int.mul_nonneg hb.1 (by omega)
  have h3 : i * bl < new := by
    by_cases hr : 0 < new % bl
    · rw [if_pos hr] at hq
      have : i * bl ≤ (new / bl) * bl := Int.mul_le_mul_of_nonneg_right (by omega) (by omega)
      rw [Int.mul_comm (new / bl)] at this
      omega
    · rw [if_neg hr] at hq
      have : (i + 1) * bl ≤ (new / bl) * bl := Int.mul_le_mul_of_nonneg_right (by omega) (by omega)
      rw [Int.mul_comm (new / bl), Int.add_mul] at this
      omega
  unfold sizeE
  split <;> omega
end Go.Proofs.Ytheofegmbajmkaa.Sa
