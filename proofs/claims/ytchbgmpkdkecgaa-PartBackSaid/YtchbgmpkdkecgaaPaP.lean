/-
  Layer 7, part: a device that stays on: what is written is read, plain. Conditions: as each theorem names.
-/
import Derived.Test.YtchbgmpkdkecgaaPaN
namespace Go.Proofs.Ytchbgmpkdkecgaa.Pt
open Go.ChangeShapes Go.WideShapes Go.ChangeAt Go.RowKit Go.Proofs.Ytchbgmpkdkecgaa.Kit Go.Proofs.Ytchbgmpkdkecgaa.Sec

/-- A device that is on and never falls. -/
structure On (s : Dv) : Prop where
  ok : s.Ok
  off : s.off = false
  fuse : s.fuse = -1
theorem On.new {N M : Nat} (h1 : 128 ≤ N) (h2 : N ≤ 4096) (h3 : 1 ≤ M) (h4 : M ≤ 1048576) : On (Dv.new N M) := ⟨Dv.new_ok h1 h2 h3 h4, rfl, rfl⟩
theorem on_write {s : Dv} (h : On s) {i : Int} {xs : List Int} (h0 : 0 ≤ i) (h1 : i < s.count) (hx : xs.length = s.size) :
    (s.write i xs).1 = 0 ∧ On (s.write i xs).2 ∧ (s.write i xs).2.size = s.size ∧ (s.write i xs).2.count = s.count ∧ ∀ j, (s.write i xs).2.read j = if j = i then (xs, 0) else s.read j := by
  have ht : (s.writes i xs).tick = s.writes i xs := by
    unfold Dv.tick
    rw [if_pos (show (s.writes i xs).fuse = -1 from h.fuse)]
  have e : s.write i xs = (0, { s.writes i xs with wr := s.wr + 1 }) := by
    unfold Dv.write
    rw [if_neg (by rw [h.off]; decide), if_neg (by omega), if_neg (fun e => e hx), ht]
    rw [if_neg (by rw [h.fuse]; decide)]
  have hok := write_ok h.ok i xs
  rw [e] at hok ⊢
  refine ⟨rfl, ⟨hok, h.off, h.fuse⟩, rfl, rfl, fun j => ?_⟩
  unfold Dv.read
  have o1 : ({ s.writes i xs with wr := s.wr + 1 } : Dv).off = false := h.off
  have c1 : ({ s.writes i xs with wr := s.wr + 1 } : Dv).count = s.count := rfl
  have k1 : ({ s.writes i xs with wr := s.wr + 1 } : Dv).kept = s.kept := rfl
  have z1 : ({ s.writes i xs with wr := s.wr + 1 } : Dv).size = s.size := rfl
  have w1 : ({ s.writes i xs with wr := s.wr + 1 } : Dv).waits = putS s.waits i (some xs) := rfl
  rw [o1, c1, k1, z1, w1, h.off]
  by_cases hj : j = i
  · subst hj
    rw [if_pos rfl, if_neg (by decide), if_neg (by omega), getS_putS h.ok.wu]
    simp
  · rw [if_neg hj, getS_putS h.ok.wu, if_neg hj]
theorem on_wrS {s : Dv} (h : On s) {i : Int} {bs : List Int} (h0 : 0 ≤ i) : ∀ k : Nat, i + k ≤ s.count →
    OkW s i bs k ∧ On (wrS s i bs k) ∧ (wrS s i bs k).size = s.size ∧ (wrS s i bs k).count = s.count ∧ ∀ j, (wrS s i bs k).read j = if i ≤ j ∧ j < i + k then (chunkP s.size bs (j - i).toNat, 0) else s.read j
  | 0, _ => ⟨fun j hj => absurd hj (by omega), h, rfl, rfl, fun j => by rw [if_neg (by omega)]; rfl⟩
  | k + 1, hk => by
    obtain ⟨a1, a2, a3, a4, a5⟩ := on_wrS h h0 k (by omega)
    obtain ⟨b1, b2, b3, b4, b5⟩ := on_write a2 (i := i + k) (xs := chunkP s.size bs k) (by omega) (by rw [a4]; omega) (by rw [chunkP_length, a3])
    refine ⟨fun j hj => ?_, b2, b3.trans a3, b4.trans a4, fun j => ?_⟩
    · rcases Nat.lt_or_ge j k with hl | hl
      · exact a1 j hl
      · obtain rfl : j = k := by omega
        exact b1
    · show (((wrS s i bs k).write (i + k) (chunkP s.size bs k)).2).read j = _
      rw [b5, a5]
      by_cases e : j = i + k
      · rw [if_pos e, if_pos (by omega), show (j - i).toNat = k by omega]
      · rw [if_neg e]
        by_cases e2 : i ≤ j ∧ j < i + k
        · rw [if_pos e2, if_pos (by omega)]
        · rw [if_neg e2, if_neg (by omega)]
/-- Sectors that are whole are read as they stand. -/
theorem on_reads {s : Dv} {T : Nat} {r : List Int × Int} (h : ∀ p, p < T → (secP s 0 p).2 = 0) (hr : ReadsP s 0 0 T r) : r = (rowP s 0 0 T, 0) := by
  rcases hr with ⟨k, hk, _, h2, _⟩ | ⟨_, e⟩
  · exact absurd (h _ (by omega)) h2
  · exact e
/-- What a written region reads as. -/
def wantB (N F x : Nat) (bs : List Int) (p : Nat) : Int :=
  if F * N + x ≤ p ∧ p < F * N + x + bs.length then bs.getD (p - (F * N + x)) 0 else if F * N + x ≤ p ∧ p < F * N + x + manyP N bs * N then 0 else 201

section
variable {N M : Nat}
theorem fill_read (h1 : 128 ≤ N) (h2 : N ≤ 4096) (h3 : 1 ≤ M) (h4 : M ≤ 1048576) :
    On (wrS (Dv.new N M) 0 (List.replicate (N * M) 201) M) ∧ (wrS (Dv.new N M) 0 (List.replicate (N * M) 201) M).size = N ∧ (wrS (Dv.new N M) 0 (List.replicate (N * M) 201) M).count = M ∧
      ∀ j : Nat, j < M → (wrS (Dv.new N M) 0 (List.replicate (N * M) 201) M).read j = (List.replicate N 201, 0) := by
  obtain ⟨a1, a2, a3, a4, a5⟩ := on_wrS (On.new h1 h2 h3 h4) (i := 0) (bs := List.replicate (N * M) 201) (by omega) M (by show (0 : Int) + (M : Int) ≤ (M : Int); omega)
  refine ⟨a2, a3, a4, fun j hj => ?_⟩
  rw [a5, if_pos (by omega)]
  have e : ((j : Int) - 0).toNat = j := by omega
  rw [e]
  have hs : (Dv.new N M).size = N := rfl
  rw [hs]
  unfold chunkP padB
  rw [List.drop_replicate, List.take_replicate]
  have hjn : N ≤ N * M - j * N := by
    have : (j + 1) * N ≤ M * N := Nat.mul_le_mul_right N hj
    rw [Nat.add_mul, Nat.one_mul, Nat.mul_comm M N] at this
    omega
  rw [Nat.min_eq_left hjn, List.length_replicate, Nat.sub_self]
  simp
theorem fill_many (h1 : 128 ≤ N) : manyP N (List.replicate (N * M) 201) = M := by
  unfold manyP
  rw [List.length_replicate, Nat.mul_comm N M, Nat.add_sub_assoc (by omega), Nat.add_comm, Nat.add_mul_div_right _ _ (by omega), Nat.div_eq_of_lt (by omega)]
  omega
/-- The first write fills the device. -/
theorem fill_writes (h1 : 128 ≤ N) (h2 : N ≤ 4096) (h3 : 1 ≤ M) (h4 : M ≤ 1048576) {r : Int × Dv} (h : PWrite (Dv.new N M) 0 (N * M) 0 (List.replicate (N * M) 201) r) : r = (0, wrS (Dv.new N M) 0 (List.replicate (N * M) 201) M) := by
  have hs : (Dv.new N M).size = N := rfl
  unfold PWrite at h
  rw [hs, if_neg (by simp), if_pos (by rw [List.length_replicate]; omega)] at h
  have hm := fill_many (M := M) h1
  obtain ⟨a1, -, -, -, -⟩ := on_wrS (On.new h1 h2 h3 h4) (i := 0) (bs := List.replicate (N * M) 201) (by omega) M (by show (0 : Int) + (M : Int) ≤ (M : Int); omega)
  have e : (0 : Int) + (((0 : Int).toNat / N : Nat) : Int) = 0 := by simp
  rw [e] at h
  rcases h with ⟨k, hk, _, h5, _⟩ | ⟨_, e⟩
  · rw [hs, hm] at hk
    exact absurd (a1 k hk) h5
  · rw [e, hs, hm]
end

theorem chunkP_getD (n : Nat) (bs : List Int) (k m : Nat) (hm : m < n) : (chunkP n bs k).getD m 0 = if k * n + m < bs.length then bs.getD (k * n + m) 0 else 0 := by
  unfold chunkP padB
  rw [List.getD, List.getD]
  by_cases h : k * n + m < bs.length
  · rw [if_pos h, List.getElem?_append_left (by rw [List.length_take, List.length_drop]; omega), List.getElem?_take, if_pos hm, List.getElem?_drop]
  · rw [if_neg h, List.getElem?_append_right (by rw [List.length_take, List.length_drop]; omega), List.getElem?_replicate]
    split <;> rfl
theorem many_le {n : Nat} (hn : 0 < n) {bs : List Int} {k : Nat} (h : bs.length ≤ k * n) : manyP n bs ≤ k := by
  rcases Nat.lt_or_ge k (manyP n bs) with h1 | h1
  · have := (manyP_iff hn bs k).1 h1
    omega
  · exact h1
section
variable {N M : Nat} {s : Dv}
/-- A device of which each sector can be read. -/
theorem reads_all (hz : s.size = N) (hN : 0 < N) (h : ∀ j : Nat, j < M → (s.read j).2 = 0) {q : List Int × Int} (hq : PRead s 0 (N * M) 0 ((N * M : Nat) : Int) q) : q = (rowP s 0 0 (N * M), 0) := by
  unfold PRead at hq
  rw [if_pos (by omega)] at hq
  refine on_reads (fun p hp => ?_) hq
  unfold secP
  rw [hz, Int.zero_add]
  exact h _ ((Nat.div_lt_iff_lt_mul hN).2 (by rw [Nat.mul_comm]; simpa using hp))
theorem row_getD (p T : Nat) (hp : p < T) : (rowP s 0 0 T).getD p 0 = (s.read ((p / s.size : Nat) : Int)).1.getD (p % s.size) 0 := by
  unfold rowP
  rw [List.getD, List.getElem?_map, List.getElem?_range hp]
  simp [byteP, secP]
theorem back_reads {F C x : Int} {T : Nat} {bs : List Int} (hN : 128 ≤ N) (hon : On s) (hz : s.size = N) (hc : s.count = M) (hr : ∀ j : Nat, j < M → s.read j = (List.replicate N 201, 0)) (hl : Lies s F C T)
    {r : Int × Dv} (h : PWrite s F T x bs r) {q : List Int × Int} (hq : PRead r.2 0 (N * M) 0 ((N * M : Nat) : Int) q) :
    (r.1 ≠ 0 ∧ q = (List.replicate (N * M) 201, 0)) ∨ (r.1 = 0 ∧ 0 ≤ x ∧ x + bs.length ≤ T ∧ q.2 = 0 ∧ q.1.length = N * M ∧ ∀ p, p < N * M → q.1.getD p 0 = wantB N F.toNat x.toNat bs p) := by
  have hfill : ∀ {r2 : Dv}, r2 = s → PRead r2 0 (N * M) 0 ((N * M : Nat) : Int) q → q = (List.replicate (N * M) 201, 0) := by
    rintro r2 rfl hq
    rw [reads_all hz (by omega) (fun j hj => by rw [hr j hj]) hq]
    congr 1
    apply List.ext_getElem
    · rw [rowP_length, List.length_replicate]
    · intro p h1 h2
      rw [rowP_length] at h1
      have e := row_getD (s := r2) p (N * M) h1
      rw [List.getD, List.getElem?_eq_getElem (by rw [rowP_length]; exact h1)] at e
      rw [List.getElem_replicate]
      refine (show _ = _ from e).trans ?_
      rw [hz, hr _ ((Nat.div_lt_iff_lt_mul (by omega)).2 (by rw [Nat.mul_comm]; exact h1)), List.getD, List.getElem?_replicate, if_pos (Nat.mod_lt _ (by omega))]
      rfl
  unfold PWrite at h
  rw [hz] at h
  split at h
  · rw [h] at hq ⊢
    exact Or.inl ⟨by show (1 : Int) ≠ 0; decide, hfill rfl hq⟩
  rename_i hm
  split at h
  · rename_i hin
    right
    obtain ⟨X, rfl⟩ : ∃ X : Nat, x = (X : Int) := ⟨x.toNat, by omega⟩
    obtain ⟨f, rfl⟩ : ∃ f : Nat, F = (f : Int) := ⟨F.toNat, by have := hl.f0; omega⟩
    rw [Int.toNat_natCast] at h
    rw [Int.toNat_natCast, Int.toNat_natCast]
    have hXm : X % N = 0 := by
      have h1 : ((X % N : Nat) : Int) = 0 := by rw [Int.ofNat_tmod]; exact Decidable.not_not.1 hm
      omega
    have hXN : X / N * N = X := by have := Nat.div_add_mod X N; rw [hXm, Nat.mul_comm] at this; omega
    obtain ⟨Q, hQ⟩ : ∃ Q, X / N = Q := ⟨_, rfl⟩
    rw [hQ] at hXN h
    obtain ⟨c, rfl⟩ : ∃ c : Nat, C = (c : Int) := ⟨C.toNat, by have := hl.c1; omega⟩
    have ht : c * N = T := by have := hl.t; rw [hz] at this; exact_mod_cast this
    have hfc : f + c ≤ M := by have := hl.fc; rw [hc] at this; exact_mod_cast this
    have hcx : Q ≤ c := by
      rcases Nat.lt_or_ge c Q with h1 | h1
      · have : (c + 1) * N ≤ Q * N := Nat.mul_le_mul_right N h1
        rw [Nat.add_mul, Nat.one_mul] at this
        omega
      · exact h1
    have hmany : manyP N bs ≤ c - Q := many_le (by omega) (by rw [Nat.sub_mul, hXN, ht]; omega)
    obtain ⟨a1, a2, a3, a4, a5⟩ := on_wrS hon (i := (f : Int) + (Q : Int)) (bs := bs) (by omega) (manyP N bs) (by rw [hc]; omega)
    have he : r = (0, wrS s ((f : Int) + (Q : Int)) bs (manyP N bs)) := by
      rcases h with ⟨k, hk, _, h5, _⟩ | ⟨_, e⟩
      · rw [hz] at hk
        exact absurd (a1 k hk) h5
      · rw [e, hz]
    rw [he] at hq ⊢
    have hq2 := reads_all (s := wrS s ((f : Int) + (Q : Int)) bs (manyP N bs)) (a3.trans hz) (by omega) (fun j hj => by
      rw [a5]
      split
      · rfl
      · rw [hr j hj]) hq
    rw [hq2]
    refine ⟨rfl, by omega, by omega, rfl, rowP_length _ _ _ _, fun p hp => ?_⟩
    show (rowP _ 0 0 (N * M)).getD p 0 = _
    rw [row_getD p (N * M) hp, a3.trans hz, a5, hz]
    have hpj : p / N < M := (Nat.div_lt_iff_lt_mul (by omega)).2 (by rw [Nat.mul_comm]; exact hp)
    have hdm := Nat.div_add_mod p N
    have hpm := Nat.mod_lt p (show 0 < N by omega)
    obtain ⟨I, hI⟩ : ∃ I, f + Q = I := ⟨_, rfl⟩
    have hIN : f * N + X = I * N := by rw [← hI, Nat.add_mul, hXN]
    have hiI : (f : Int) + (Q : Int) = (I : Int) := by omega
    rw [hiI]
    unfold wantB
    rw [hIN]
    obtain ⟨j, hj⟩ : ∃ j, p / N = j := ⟨_, rfl⟩
    rw [hj] at hpj hdm ⊢
    rw [Nat.mul_comm] at hdm
    by_cases hin2 : I ≤ j ∧ j < I + manyP N bs
    · rw [if_pos (by omega)]
      show (chunkP N bs ((j : Int) - (I : Int)).toNat).getD (p % N) 0 = _
      obtain ⟨k, rfl⟩ : ∃ k, j = I + k := ⟨j - I, by omega⟩
      rw [show (((I + k : Nat) : Int) - (I : Int)).toNat = k by omega, chunkP_getD N bs k _ hpm]
      have e1 : (I + k) * N = I * N + k * N := Nat.add_mul _ _ _
      rw [e1] at hdm
      have e2 : k * N + p % N = p - I * N := by omega
      have e3 : k * N + p % N < manyP N bs * N := by
        have : (k + 1) * N ≤ manyP N bs * N := Nat.mul_le_mul_right N (by omega)
        rw [Nat.add_mul, Nat.one_mul] at this
        omega
      rw [e2]
      by_cases hl2 : p - I * N < bs.length
      · rw [if_pos hl2, if_pos (by omega)]
      · rw [if_neg hl2, if_neg (by omega), if_pos (by omega)]
    · rw [if_neg (by omega), hr j hpj]
      show (List.replicate N (201 : Int)).getD (p % N) 0 = _
      rw [List.getD, List.getElem?_replicate, if_pos hpm]
      have hb : bs.length ≤ manyP N bs * N := by
        rcases Nat.lt_or_ge (manyP N bs * N) bs.length with h1 | h1
        · exact absurd ((manyP_iff (by omega) bs _).2 h1) (Nat.lt_irrefl _)
        · exact h1
      rcases Nat.lt_or_ge j I with h1 | h1
      · have : (j + 1) * N ≤ I * N := Nat.mul_le_mul_right N h1
        rw [Nat.add_mul, Nat.one_mul] at this
        rw [if_neg (by omega), if_neg (by omega)]
        rfl
      · have h2 : I + manyP N bs ≤ j := by omega
        have : (I + manyP N bs) * N ≤ j * N := Nat.mul_le_mul_right N h2
        rw [Nat.add_mul] at this
        rw [if_neg (by omega), if_neg (by omega)]
        rfl
  · rw [h] at hq ⊢
    exact Or.inl ⟨by show (5 : Int) ≠ 0; decide, hfill rfl hq⟩
end
end Go.Proofs.Ytchbgmpkdkecgaa.Pt
