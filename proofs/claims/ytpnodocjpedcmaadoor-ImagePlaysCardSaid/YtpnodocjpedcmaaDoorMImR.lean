/-
  Layer 25, image: on a device that stays on, in the layout's words; the law's small words: contracts. Conditions: as each theorem names.
-/
import Derived.Test.YtpnodocjpedcmaaDoorMGIays10
import Derived.Test.YtpnodocjpedcmaaDoorMImF
import Derived.Test.YtpnodocjpedcmaaDoorMGIays0
namespace Go.Proofs.YtpnodocjpedcmaaDoor.Im
open Go.ChangeShapes Go.WideShapes Go.ChangeAt Go.RowKit Go.Proofs.YtpnodocjpedcmaaDoor.Kit Go.Proofs.YtpnodocjpedcmaaDoor.Sec Go.Proofs.YtpnodocjpedcmaaDoor.Pt

theorem LayOk.near {S B sl : Int} {s t : Dv} (h : LayOk S B sl s) (n : Near s t) : LayOk S B sl t := ⟨h.m, by rw [n.2.2.1]; exact h.z, by rw [n.2.2.2]; exact h.c⟩
theorem apart_of {S B sl k i j : Int} {N M : Nat} {s0 : Dv} {bs cs : List Int} (h : LayOk S B sl s0) (ha : AllOn s0 N M) (hij : (i = 0 ∧ j ≠ 0) ∨ (i ≠ 0 ∧ j = 0)) (hk : 0 ≤ k ∧ k < sl) (hb : (bs.length : Int) ≤ B) (hc : (cs.length : Int) ≤ B)
    {r1 r2 : Int × Dv} (h1 : PWrite s0 (slotF S B sl i) (B * sl).toNat (k * B) bs r1) (h2 : PWrite r1.2 2 B.toNat 0 cs r2) :
    (∀ r r', ReadsP s0 (slotF S B sl j) 0 (B * sl).toNat r → ReadsP r2.2 (slotF S B sl j) 0 (B * sl).toNat r' → r = r' ∧ r.2 = 0) ∧
    (∀ r, PRead r2.2 (slotF S B sl i) (B * sl).toNat (k * B) bs.length r → r = (bs, 0)) ∧ (∀ r, PRead r2.2 2 B.toNat 0 cs.length r → r = (cs, 0)) := by
  obtain ⟨hS, hB, hs, hd, hq, h0, h01, hT, hp⟩ := h.facts
  have hz := h.z
  have hcc := h.c
  rw [ha.z] at hz
  rw [ha.c] at hcc
  obtain ⟨q, hqn⟩ : ∃ q : Nat, B / S = q := ⟨(B / S).toNat, by omega⟩
  obtain ⟨l, hl⟩ : ∃ l : Nat, sl = l := ⟨sl.toNat, by omega⟩
  obtain ⟨e, he⟩ : ∃ e : Nat, k = e := ⟨k.toNat, by omega⟩
  rw [hqn, hz] at hd
  have hBn : B = ((q * N : Nat) : Int) := by rw [Int.natCast_mul]; exact hd.symm
  have hTn : (B * sl).toNat = l * q * N := by
    rw [hBn, hl, ← Int.natCast_mul, Int.toNat_natCast, Nat.mul_comm (q * N) l, ← Nat.mul_assoc]
  have hBt : B.toNat = q * N := by rw [hBn, Int.toNat_natCast]
  have hkB : k * B = ((e * (q * N) : Nat) : Int) := by rw [he, hBn, ← Int.natCast_mul]
  have hsq : sl * (B / S) = ((l * q : Nat) : Int) := by rw [hqn, hl, Int.natCast_mul]
  have hF : ∀ i : Int, slotF S B sl i = (((if i = 0 then 2 + q else 2 + q + l * q) : Nat) : Int) := by
    intro i
    unfold slotF
    rw [hsq, hqn]
    split
    · omega
    · omega
  have hM : 2 + q + l * q + l * q ≤ M := by
    unfold allV at hcc
    rw [hsq, hqn] at hcc
    omega
  rw [hF i, hTn, hkB] at h1
  rw [hBt] at h2
  rw [hF i, hF j, hTn, hkB, hBt]
  have hN : 0 < N := by omega
  refine apart (M := M) (q := q) (sl := l) (k := e) ha hN (by omega) (by omega) hM ?_ (by omega) (by omega) h1 h2
  rcases hij with ⟨e1, e2⟩ | ⟨e1, e2⟩
  · exact Or.inl ⟨by rw [if_pos e1], by rw [if_neg e2]⟩
  · exact Or.inr ⟨by rw [if_neg e1], by rw [if_pos e2]⟩

theorem put_ok {S B sl k i : Int} {N M : Nat} {s0 : Dv} {bs : List Int} (h : LayOk S B sl s0) (ha : AllOn s0 N M) (hk : 0 ≤ k ∧ k < sl) (hb : (bs.length : Int) ≤ B) {r1 : Int × Dv} (h1 : PWrite s0 (slotF S B sl i) (B * sl).toNat (k * B) bs r1) : r1.1 = 0 ∧ AllOn r1.2 N M := by
  obtain ⟨hS, hB, hs, hd, hq, h0, h01, hT, hp⟩ := h.facts
  have hz := h.z
  have hcc := h.c
  rw [ha.z] at hz
  rw [ha.c] at hcc
  obtain ⟨q, hqn⟩ : ∃ q : Nat, B / S = q := ⟨(B / S).toNat, by omega⟩
  obtain ⟨l, hl⟩ : ∃ l : Nat, sl = l := ⟨sl.toNat, by omega⟩
  obtain ⟨e, he⟩ : ∃ e : Nat, k = e := ⟨k.toNat, by omega⟩
  rw [hqn, hz] at hd
  have hBn : B = ((q * N : Nat) : Int) := by rw [Int.natCast_mul]; exact hd.symm
  have hTn : (B * sl).toNat = l * q * N := by
    rw [hBn, hl, ← Int.natCast_mul, Int.toNat_natCast, Nat.mul_comm (q * N) l, ← Nat.mul_assoc]
  have hkB : k * B = ((e * (q * N) : Nat) : Int) := by rw [he, hBn, ← Int.natCast_mul]
  have hsq : sl * (B / S) = ((l * q : Nat) : Int) := by rw [hqn, hl, Int.natCast_mul]
  have hM : 2 + q + l * q + l * q ≤ M := by
    unfold allV at hcc
    rw [hsq, hqn] at hcc
    omega
  obtain ⟨F, hF, hFM⟩ : ∃ F : Nat, slotF S B sl i = F ∧ F + l * q ≤ M := by
    unfold slotF
    rw [hsq, hqn]
    split
    · exact ⟨2 + q, by omega, by omega⟩
    · exact ⟨2 + q + l * q, by omega, by omega⟩
  rw [hF, hTn, hkB] at h1
  have hN : 0 < N := by omega
  have hel : e < l := by omega
  have hkq : e * (q * N) + q * N ≤ l * q * N := by
    have : (e + 1) * (q * N) ≤ l * (q * N) := Nat.mul_le_mul_right _ hel
    rw [Nat.mul_assoc]
    rw [Nat.add_mul, Nat.one_mul] at this
    exact this
  have hkq2 : e * q + q ≤ l * q := by
    have : (e + 1) * q ≤ l * q := Nat.mul_le_mul_right _ hel
    rwa [Nat.add_mul, Nat.one_mul] at this
  have hbl : bs.length ≤ q * N := by omega
  have hmb : manyP N bs ≤ q := many_le hN hbl
  unfold PWrite at h1
  rw [ha.z] at h1
  have htm : (((e * (q * N) : Nat) : Int)).tmod (N : Int) = 0 := by
    rw [← Nat.mul_assoc]
    show Int.tmod ((e * q * N : Nat) : Int) (N : Int) = 0
    rw [Int.natCast_mul]
    exact Int.mul_tmod_left _ _
  rw [if_neg (by rw [htm]; decide), if_pos (by omega)] at h1
  have hst : (((e * (q * N) : Nat) : Int)).toNat / N = e * q := by
    rw [Int.toNat_natCast]
    have := (block_at (q := q) (k := e) (j := 0) hN).1
    simpa using this
  rw [hst] at h1
  have h1' : WritesP s0 ((F + e * q : Nat) : Int) bs r1 := by rw [Int.natCast_add]; exact h1
  obtain ⟨e1, on1, _⟩ := ha.write (j := F + e * q) (by omega) h1'
  exact ⟨e1, on1⟩
theorem keep_ok {S B sl : Int} {N M : Nat} {s0 : Dv} {cs : List Int} (h : LayOk S B sl s0) (ha : AllOn s0 N M) (hc : (cs.length : Int) ≤ B) {r2 : Int × Dv} (h2 : PWrite s0 2 B.toNat 0 cs r2) : r2.1 = 0 ∧ AllOn r2.2 N M := by
  obtain ⟨hS, hB, hs, hd, hq, h0, h01, hT, hp⟩ := h.facts
  have hz := h.z
  have hcc := h.c
  rw [ha.z] at hz
  rw [ha.c] at hcc
  obtain ⟨q, hqn⟩ : ∃ q : Nat, B / S = q := ⟨(B / S).toNat, by omega⟩
  rw [hqn, hz] at hd
  have hBn : B = ((q * N : Nat) : Int) := by rw [Int.natCast_mul]; exact hd.symm
  have hBt : B.toNat = q * N := by rw [hBn, Int.toNat_natCast]
  have hM : 2 + q ≤ M := by
    unfold allV at hcc
    rw [hqn] at hcc hp
    omega
  have hN : 0 < N := by omega
  have hma : manyP N cs ≤ q := many_le hN (by omega)
  rw [hBt] at h2
  unfold PWrite at h2
  rw [ha.z, if_neg (by rw [Int.zero_tmod]; decide), if_pos (by omega)] at h2
  have hst0 : (0 : Int).toNat / N = 0 := Nat.zero_div _
  rw [hst0] at h2
  have h2' : WritesP s0 ((2 : Nat) : Int) cs r2 := by simpa using h2
  obtain ⟨e2, on2, _⟩ := ha.write (j := 2) (by omega) h2'
  exact ⟨e2, on2⟩

def smallB (S B sl : Int) : Bool := Prt.mayB S B sl && (decide (B ≤ 512) && decide (sl ≤ 20))
set_option maxRecDepth 100000 in
set_option maxHeartbeats 3200000 in
theorem small_any (S B sl : Int) (w : World) : Calls Tryd.prog 24 #[.agg #[.int .i64 S, .int .i64 B, .int .i64 sl]] w fun e w' => e = .returned (.bool (smallB S B sl)) ∧ Below w.heap.size w w' := by
  have GM := Lib.hid (fun W => Prt.rmay_any S B sl W)
  have B0 : Below w.heap.size w (w.alloc (.cells #[.int .i64 S, .int .i64 B, .int .i64 sl] 61)) := (Below.refl _ _).alloc (Nat.le_refl _) _
  have X0 := Block.new w 61 #[.int .i64 S, .int .i64 B, .int .i64 sl]
  unfold smallB
  cases hm : Prt.mayB S B sl with
  | false =>
    rw [hm] at GM
    clear hm
    go_enter Tryd.func24, Tryd.ntmps24
    go_wp2_with (go_at_call 39; refine (GM.out _).mono ?_; rintro e w3 ⟨rfl, hb3⟩)
    go_ret
    exact ⟨rfl, B0.trans (hb3.mono B0.size)⟩
  | true =>
    rw [hm] at GM
    clear hm
    by_cases h1 : B ≤ 512
    · have d1 : decide (B ≤ 512) = true := decide_eq_true h1
      by_cases h2 : sl ≤ 20
      · have d2 : decide (sl ≤ 20) = true := decide_eq_true h2
        clear h1 h2
        go_enter Tryd.func24, Tryd.ntmps24
        go_wp2_with (go_at_call 39; refine (GM.out _).mono ?_; rintro e w3 ⟨rfl, hb3⟩; have X3 := X0.below hb3 X0.lt; have x1 := X3.cell 1; have x2 := X3.cell 2; simp at x1 x2)
        go_ret
        exact ⟨by rw [d1, d2]; rfl, B0.trans (hb3.mono B0.size)⟩
      · have d2 : decide (sl ≤ 20) = false := decide_eq_false h2
        clear h1 h2
        go_enter Tryd.func24, Tryd.ntmps24
        go_wp2_with (go_at_call 39; refine (GM.out _).mono ?_; rintro e w3 ⟨rfl, hb3⟩; have X3 := X0.below hb3 X0.lt; have x1 := X3.cell 1; have x2 := X3.cell 2; simp at x1 x2)
        go_ret
        exact ⟨by rw [d1, d2]; rfl, B0.trans (hb3.mono B0.size)⟩
    · have d1 : decide (B ≤ 512) = false := decide_eq_false h1
      clear h1
      go_enter Tryd.func24, Tryd.ntmps24
      go_wp2_with (go_at_call 39; refine (GM.out _).mono ?_; rintro e w3 ⟨rfl, hb3⟩; have X3 := X0.below hb3 X0.lt; have x1 := X3.cell 1; have x2 := X3.cell 2; simp at x1 x2)
      go_ret
      exact ⟨by rw [d1]; rfl, B0.trans (hb3.mono B0.size)⟩
end Go.Proofs.YtpnodocjpedcmaaDoor.Im
