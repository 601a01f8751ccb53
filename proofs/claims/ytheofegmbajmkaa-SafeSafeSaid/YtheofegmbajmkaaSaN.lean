/-
  Layer 20, safe: what is checked makes in place what it makes of the old image: plain. Conditions: as each theorem names.
-/
import Derived.Test.YtheofegmbajmkaaSaM
namespace Go.Proofs.Ytheofegmbajmkaa.Sa
open Go.ChangeShapes Go.WideShapes Go.ChangeAt Go.RowKit Go.Proofs.Ytheofegmbajmkaa.Kit Go.Proofs.Ytheofegmbajmkaa.Ordr Go.Proofs.Ytheofegmbajmkaa.Blk Go.Proofs.Ytheofegmbajmkaa.Pl

theorem part_same {L K : List Int} (hlen : L.length = K.length) (m n : Nat) (h : ∀ q, m ≤ q → q < m + n → L.getD q 0 = K.getD q 0) : (L.drop m).take n = (K.drop m).take n := by
  apply List.ext_getElem?
  intro j
  rw [List.getElem?_take, List.getElem?_take]
  by_cases hj : j < n
  · rw [if_pos hj, if_pos hj, List.getElem?_drop, List.getElem?_drop]
    have hq := h (m + j) (by omega) (by omega)
    by_cases hl : m + j < L.length
    · have hk : m + j < K.length := by omega
      simp only [List.getD, List.getElem?_eq_getElem hl, List.getElem?_eq_getElem hk, Option.getD_some] at hq
      rw [List.getElem?_eq_getElem hl, List.getElem?_eq_getElem hk, hq]
    · rw [List.getElem?_eq_none (by omega), List.getElem?_eq_none (by omega)]
  · rw [if_neg hj, if_neg hj]

theorem made_same {L b : List Int} {s : Stp} (hlen : L.length = b.length) (h : s.a ≠ 1 → ∀ q : Nat, s.b.toNat ≤ q → q < s.b.toNat + s.x.toNat → L.getD q 0 = b.getD q 0) : madeO (some L) s = madeO (some b) s := by
  unfold madeO
  by_cases ha : s.a = 1
  · rw [if_pos ha, if_pos ha]
  · rw [if_neg ha, if_neg ha]
    simp only
    have e1 : okRange L s.b s.x = okRange b s.b s.x := by unfold okRange; rw [hlen]
    have e2 : rangeB L s.b s.x = rangeB b s.b s.x := part_same hlen _ _ (h ha)
    rw [e1, e2]
theorem eval_same {L b : List Int} : ∀ {ss : List Stp}, (∀ s ∈ ss, madeO (some L) s = madeO (some b) s) → evalO (some L) ss = evalO (some b) ss
  | [], _ => rfl
  | s :: ss, h => by
    unfold evalO
    rw [h s (by simp), eval_same fun t ht => h t (by simp [ht])]
theorem eval_some {b : List Int} : ∀ {ss : List Stp}, ss.all rightS = true → (ss.any fun s => farB b.length s.a s.b s.x) = false → ∃ zs, evalO (some b) ss = some zs
  | [], _, _ => ⟨[], rfl⟩
  | s :: ss, hr, hf => by
    simp only [List.all_cons, Bool.and_eq_true] at hr
    simp only [List.any_cons, Bool.or_eq_false_iff] at hf
    obtain ⟨zs, hz⟩ := eval_some hr.2 hf.2
    have hok := right_ok hr.1
    unfold StpOk at hok
    have hff := of_decide_eq_false hf.1
    unfold evalO
    rw [hz]
    unfold madeO
    by_cases ha : s.a = 1
    · rw [if_pos ha]; exact ⟨_, rfl⟩
    · rw [if_neg ha]
      simp only
      rw [if_pos (by unfold okRange; exact decide_eq_true (by omega))]
      exact ⟨_, rfl⟩
theorem one_zero {ss : List Stp} {l : List Int} {bl old want : Int} (h : oneE ss l bl old want = 0) : ss.all rightS = true ∧ sumX ss = want ∧ (ss.any fun s => farB old s.a s.b s.x) = false ∧ (ss.any fun s => l.any fun i => meetsB bl i s.a s.b s.x) = false := by
  unfold oneE at h
  split at h
  · rename_i h1
    split at h
    · rename_i h2
      split at h
      · cases h
      · rename_i h3
        split at h
        · cases h
        · rename_i h4
          exact ⟨h1, h2, by simpa using h3, by simpa using h4⟩
    · cases h
  · cases h
theorem evalE_some {b : List Int} {ss : List Stp} {want : Int} (h1 : ss.all rightS = true) (h2 : sumX ss = want) (h3 : (ss.any fun s => farB b.length s.a s.b s.x) = false) : (evalE (some b) ss want).2 = 0 := by
  obtain ⟨zs, hz⟩ := eval_some h1 h3
  unfold evalE
  rw [if_neg (by rw [h1]; decide), if_neg (by intro h; exact h h2), hz]
theorem evalE_same {L b : List Int} {ss : List Stp} {want : Int} (h : evalO (some L) ss = evalO (some b) ss) : evalE (some L) ss want = evalE (some b) ss want := by
  unfold evalE
  rw [h]

theorem putAt_getD {L x : List Int} {p : Nat} (hp : p + x.length ≤ L.length) (q : Nat) : (putAt L p x).getD q 0 = if q < p then L.getD q 0 else if q < p + x.length then x.getD (q - p) 0 else L.getD q 0 := by
  have h1 : (L.take p).length = p := by rw [List.length_take]; omega
  unfold putAt
  by_cases hq : q < p
  · rw [if_pos hq]
    simp only [List.getD]
    rw [List.getElem?_append_left (by omega), List.getElem?_take, if_pos hq]
  · rw [if_neg hq]
    simp only [List.getD]
    rw [List.getElem?_append_right (by omega), h1]
    by_cases hx : q < p + x.length
    · rw [if_pos hx, List.getElem?_append_left (by omega)]
    · rw [if_neg hx, List.getElem?_append_right (by omega), List.getElem?_drop, show p + x.length + (q - p - x.length) = q by omega]
theorem putAt_in {L x : List Int} {p : Nat} (hp : p + x.length ≤ L.length) : ((putAt L p x).drop p).take x.length = x := by
  have h1 : (L.take p).length = p := by rw [List.length_take]; omega
  unfold putAt
  rw [List.drop_append_of_le_length (by omega), show (L.take p).drop p = [] from List.drop_eq_nil_of_le (by omega), List.nil_append, List.take_append_of_le_length (Nat.le_refl _), List.take_length]
theorem apart {i j bl : Int} (hb : 0 < bl) (h : i ≠ j) : (i + 1) * bl ≤ j * bl ∨ (j + 1) * bl ≤ i * bl := by
  rcases Int.lt_or_gt_of_ne h with h | h
  · exact .inl (Int.mul_le_mul_of_nonneg_right (by omega) (by omega))
  · exact .inr (Int.mul_le_mul_of_nonneg_right (by omega) (by omega))

/-- Behind those done: outside their places all is as it was; in them lies what their plans make of the old image. -/
structure SInv (b : List Int) (M : Nat) (ps : List Plan) (bl new : Int) (l : List Int) (L : List Int) : Prop where
  len : L.length = M
  out : ∀ q : Nat, q < M → (∀ i ∈ l, ¬ (i * bl ≤ (q : Int) ∧ (q : Int) < (i + 1) * bl)) → L.getD q 0 = (pad b M).getD q 0
  ins : ∀ i ∈ l, (L.drop (i * bl).toNat).take (sizeE i bl new).toNat = (evalE (some b) (planS ps i) (sizeE i bl new)).1 ∧ (evalE (some b) (planS ps i) (sizeE i bl new)).2 = 0

theorem SInv.step {b : List Int} {M : Nat} {ps : List Plan} {bl new : Int} {l L : List Int} (h : SInv b M ps bl new l L) (hbM : b.length ≤ M) (hnM : new ≤ M) (hbl : 128 ≤ bl) (hpo : ∀ i, ∀ s ∈ planS ps i, Octets s.zs)
    (hin : ∀ i ∈ l, 0 ≤ i * bl ∧ 1 ≤ sizeE i bl new ∧ sizeE i bl new ≤ bl ∧ i * bl + sizeE i bl new ≤ new) {i : Int} (hi : 0 ≤ i * bl ∧ 1 ≤ sizeE i bl new ∧ sizeE i bl new ≤ bl ∧ i * bl + sizeE i bl new ≤ new) (hni : i ∉ l)
    (h1 : oneE (planS ps i) l bl b.length (sizeE i bl new) = 0) :
    evalE (some (L.take b.length)) (planS ps i) (sizeE i bl new) = evalE (some b) (planS ps i) (sizeE i bl new) ∧ (evalE (some b) (planS ps i) (sizeE i bl new)).2 = 0 ∧ SInv b M ps bl new (l ++ [i]) (putAt L (i * bl).toNat (evalE (some b) (planS ps i) (sizeE i bl new)).1) := by
  obtain ⟨r1, r2, r3, r4⟩ := one_zero h1
  have hlb : (L.take b.length).length = b.length := by rw [List.length_take, h.len]; omega
  have hsame : evalE (some (L.take b.length)) (planS ps i) (sizeE i bl new) = evalE (some b) (planS ps i) (sizeE i bl new) := by
    refine evalE_same (eval_same fun s hs => made_same hlb fun ha q hq1 hq2 => ?_)
    have hok := right_ok (List.all_eq_true.1 r1 s hs)
    unfold StpOk at hok
    have hf := List.any_eq_false.1 r3 s hs
    unfold farB at hf
    rw [decide_eq_true_iff] at hf
    have hm := List.any_eq_false.1 r4 s hs
    have hqb : q < b.length := by omega
    have e1 : (L.take b.length).getD q 0 = L.getD q 0 := by simp only [List.getD]; rw [List.getElem?_take, if_pos hqb]
    have e2 : (pad b M).getD q 0 = b.getD q 0 := by simp only [List.getD]; unfold pad; rw [List.getElem?_append_left hqb]
    rw [e1, ← e2]
    refine h.out q (by omega) fun j hj hjq => ?_
    refine hm (List.any_eq_true.2 ⟨j, hj, ?_⟩)
    unfold meetsB
    exact decide_eq_true (by omega)
  have hz := evalE_some (want := sizeE i bl new) r1 r2 r3
  obtain ⟨hlen, _⟩ := evalE_ok (hpo i) hz
  refine ⟨hsame, hz, ?_⟩
  obtain ⟨ys, hys⟩ : ∃ ys, (evalE (some b) (planS ps i) (sizeE i bl new)).1 = ys := ⟨_, rfl⟩
  rw [hys] at hlen ⊢
  have hfit : (i * bl).toNat + ys.length ≤ L.length := by rw [h.len]; omega
  have hip : (i + 1) * bl = i * bl + bl := by rw [Int.add_mul, Int.one_mul]
  refine ⟨by rw [putAt_length hfit, h.len], fun q hq hout => ?_, fun j hj => ?_⟩
  · have hqi := hout i (by simp)
    have := h.out q hq fun j hj => hout j (by simp [hj])
    rw [putAt_getD hfit, ← this]
    by_cases h2 : q < (i * bl).toNat
    · rw [if_pos h2]
    · rw [if_neg h2, if_neg (by omega)]
  · rcases List.mem_append.1 hj with hj | hj
    · obtain ⟨a1, a2⟩ := h.ins j hj
      have hjn := hin j hj
      have hne : j ≠ i := fun e => hni (e ▸ hj)
      have hjp : (j + 1) * bl = j * bl + bl := by rw [Int.add_mul, Int.one_mul]
      refine ⟨?_, a2⟩
      rw [← a1]
      refine part_same (putAt_length hfit) _ _ fun q hq1 hq2 => ?_
      rw [putAt_getD hfit]
      rcases apart (bl := bl) (by omega) hne with h3 | h3
      · rw [if_pos (by omega)]
      · rw [if_neg (by omega), if_neg (by omega)]
    · obtain rfl : j = i := by simpa using hj
      refine ⟨?_, hz⟩
      rw [show (sizeE j bl new).toNat = ys.length by omega, putAt_in hfit, hys]

theorem safe_go {b : List Int} {M : Nat} {ps : List Plan} {bl new : Int} (hbM : b.length ≤ M) (hnM : new ≤ M) (hbl : 128 ≤ bl) (hpo : ∀ i, ∀ s ∈ planS ps i, Octets s.zs) : ∀ (r l L : List Int), SInv b M ps bl new l L → (l ++ r).Nodup →
    (∀ i ∈ l ++ r, 0 ≤ i * bl ∧ 1 ≤ sizeE i bl new ∧ sizeE i bl new ≤ bl ∧ i * bl + sizeE i bl new ≤ new) → goE ps bl b.length new l r = 0 → ∃ L', goF ps b.length bl new L r = (L'.take new.toNat, 0) ∧ SInv b M ps bl new (l ++ r) L'
  | [], l, L, hI, _, _, _ => ⟨L, rfl, by simpa using hI⟩
  | i :: r, l, L, hI, hnd, hin, hg => by
    unfold goE at hg
    by_cases h1 : oneE (planS ps i) l bl b.length (sizeE i bl new) = 0
    · rw [if_pos h1] at hg
      have hni : i ∉ l := fun hm => (List.nodup_append.1 hnd).2.2 i hm i (by simp) rfl
      obtain ⟨s1, s2, s3⟩ := hI.step hbM hnM hbl hpo (fun j hj => hin j (by simp [hj])) (hin i (by simp)) hni h1
      unfold goF
      rw [s1, if_pos s2]
      obtain ⟨L', g1, g2⟩ := safe_go hbM hnM hbl hpo r (l ++ [i]) _ s3 (by simpa using hnd) (by simpa using hin) hg
      exact ⟨L', g1, by simpa using g2⟩
    · rw [if_neg h1] at hg
      exact absurd hg h1

/-- What is checked makes in place what it makes of the old image, block by block. -/
theorem safe_all {b : List Int} {ps : List Plan} {xs : List Int} {bl new : Int} (hpo : ∀ i, ∀ s ∈ planS ps i, Octets s.zs) (h : checkE ps xs bl b.length new = 0) :
    ∃ x : List Int, foldE b ps xs bl new = (x, 0) ∧ (x.length : Int) = new ∧ ∀ k : Nat, k < ps.length → (x.drop ((k : Int) * bl).toNat).take (sizeE k bl new).toNat = (evalE (some b) (planS ps k) (sizeE k bl new)).1 ∧ (evalE (some b) (planS ps k) (sizeE k bl new)).2 = 0 := by
  unfold checkE at h
  by_cases h0 : aheadE ps.length xs bl b.length new = 0
  · rw [if_pos h0] at h
    obtain ⟨hA, hO⟩ := ahead_zero h0
    have hin := fun (i : Int) (hi : i ∈ xs) => size_in h0 hi
    unfold ArgOk at hA
    obtain ⟨L, g1, g2⟩ := safe_go (M := max b.length new.toNat) (ps := ps) (b := b) (bl := bl) (new := new) (by omega) (by omega) (by omega) hpo xs [] (pad b (max b.length new.toNat))
      ⟨by rw [pad_length]; omega, fun _ _ _ => rfl, fun i hi => by simp at hi⟩ (by simpa using hO.2.2) (by simpa using hin) h
    refine ⟨L.take new.toNat, by unfold foldE; rw [if_pos h0, g1], by rw [List.length_take, g2.len]; omega, fun k hk => ?_⟩
    have hm : (k : Int) ∈ xs := order_has _ _ hO k hk
    obtain ⟨a1, a2⟩ := g2.ins k (by simpa using hm)
    have := hin k hm
    refine ⟨?_, a2⟩
    rw [← a1, List.drop_take, List.take_take, Nat.min_eq_left (by omega)]
  · rw [if_neg h0] at h
    exact absurd h h0
end Go.Proofs.Ytheofegmbajmkaa.Sa
