/-
  Layer 8, bits: what a writer has, and Put. Conditions: as each theorem names.
-/
import Derived.Test.YthmkeflkhocobaaDoorMGInds0
import Derived.Test.YthmkeflkhocobaaDoorMGInds2
import Derived.Test.YthmkeflkhocobaaDoorMBits
import Derived.RegionTactic
import Derived.LoopTactic
import Derived.Deep.LoopGhost
import Derived.Deep.RegionLaw
import Derived.Outline
namespace Go.Proofs.YthmkeflkhocobaaDoor.Bits
open Go.ChangeShapes Go.WideShapes Go.ChangeAt Go.RowKit Go.Proofs.YthmkeflkhocobaaDoor.Kit

/-- The writer at block g has the bits m; its whole bytes are the row v. -/
structure Wr (w : World) (B g : Nat) (v : Value) (m : List Int) : Prop where
  blk : Block w g 104 #[v, .int .u64 (val (m.drop (8 * (m.length / 8)))), .int .i64 ((m.length % 8 : Nat) : Int)]
  own : Own w B 5 .u8 v (bytesOf (m.length / 8) m)
  bit : Bit m

theorem elem8 : IntElem Tryd.prog 27 5 .u8 1 := ⟨Tryd.underlying27, by kernel_rfl, by omega⟩

/-- How many bits count: from 0 to 32. -/
def clampN (n : Int) : Nat := if n < 0 then 0 else if 32 < n then 32 else n.toNat

theorem clamp_le (n : Int) : clampN n ≤ 32 := by
  unfold clampN
  by_cases h : n < 0
  · rw [if_pos h]; omega
  · rw [if_neg h]
    by_cases h' : 32 < n
    · rw [if_pos h']; omega
    · rw [if_neg h']; omega
theorem clamp_eq (n : Int) : (if 32 < (if n < 0 then 0 else n) then 32 else (if n < 0 then 0 else n)) = ((clampN n : Nat) : Int) := by
  unfold clampN
  by_cases h : n < 0
  · rw [if_pos h, if_pos h]; rfl
  · rw [if_neg h, if_neg h]
    by_cases h' : 32 < n
    · rw [if_pos h', if_pos h']; rfl
    · rw [if_neg h', if_neg h']; omega

def foot (g : Nat) (v : Value) : Nat → Prop := fun b => b = g ∨ v.ownBlock = some b

/-- What Put leaves. -/
def Puts (B g : Nat) (m : List Int) (v : Value) (w : World) (e : Ending) (w' : World) : Prop := e = .returned (.tuple #[]) ∧ ∃ v', Wr w' B g v' m ∧ TurnsIn (foot g v) w w' ∧ Newer w v v'

/-- Put's loop: j bytes are made. -/
structure Mid (B g : Nat) (M : List Int) (v : Value) (w wr : World) (j : Nat) (v' : Value) (r : Int) : Prop where
  blk : Block wr g 104 #[v', .int .u64 r, .int .i64 ((M.length - 8 * j : Nat) : Int)]
  own : Own wr B 5 .u8 v' (bytesOf j M)
  out : TurnsIn (foot g v) w wr
  new : Newer w v v'
  bas : B ≤ wr.heap.size

theorem new_foot {w : World} {v v' : Value} {g b : Nat} (h : Newer w v v') (hb : b < w.heap.size) (he : v'.ownBlock = some b) : foot g v b := by
  rcases h with h | h
  · exact .inr (h ▸ he)
  · have := h b he
    omega

theorem wrap_low {l : List Int} (hb : Bit l) : IntKind.u8.wrap (val l) = val (l.take 8) := by
  rw [IntKind.wrap_u8]
  rcases Nat.le_total 8 l.length with h | h
  · exact (val_mod hb 8 h).1
  · rw [List.take_of_length_le h]
    exact val_mod_small hb 8 h

theorem mid_next {B g j c5 : Nat} {M : List Int} {v v' : Value} {w wr w5 : World} {A5 : Option Addr} (md : Mid B g M v w wr j v' (val (M.drop (8 * j)))) (hbit : Bit M) (h8 : 8 ≤ M.length - 8 * j)
    (own5 : Own w5 B 5 .u8 (.slice A5 ((bytesOf j M).length + 1) c5) (bytesOf j M ++ [IntKind.u8.wrap (val (M.drop (8 * j)))])) (tu5 : TurnsIn (fun b => v'.ownBlock = some b) wr w5)
    (ne5 : Newer wr v' (.slice A5 ((bytesOf j M).length + 1) c5)) (blk5 : Block w5 g 104 #[v', .int .u64 (val (M.drop (8 * j))), .int .i64 ((M.length - 8 * j : Nat) : Int)]) :
    Mid B g M v w (((w5.setCell ⟨g, 0, none⟩ (.slice A5 ((bytesOf j M).length + 1) c5)).setCell ⟨g, 1, none⟩ (.int .u64 (val (M.drop (8 * j)) / 256))).setCell ⟨g, 2, none⟩ (.int .i64 (((M.length - 8 * j : Nat) : Int) - 8)))
      (j + 1) (.slice A5 ((bytesOf j M).length + 1) c5) (val (M.drop (8 * (j + 1)))) := by
  have t6 := (((TurnsIn.refl (· = g) w5).setCell (p := ⟨g, 0, none⟩) (.inl rfl) (.slice A5 ((bytesOf j M).length + 1) c5)).setCell (p := ⟨g, 1, none⟩) (.inl rfl) (.int .u64 (val (M.drop (8 * j)) / 256))).setCell (p := ⟨g, 2, none⟩) (.inl rfl) (.int .i64 (((M.length - 8 * j : Nat) : Int) - 8))
  have b6 := ((blk5.set_ 0 (.slice A5 ((bytesOf j M).length + 1) c5)).set_ 1 (.int .u64 (val (M.drop (8 * j)) / 256))).set_ 2 (.int .i64 (((M.length - 8 * j : Nat) : Int) - 8))
  have own6 := own5.out t6 (fun b hb he => own5.ne_block blk5 (by decide) (he ▸ hb))
  have hv := (val_mod (hbit.drop (8 * j)) 8 (by simp; omega)).2
  rw [List.drop_drop, show (2 : Int) ^ 8 = 256 by decide] at hv
  refine ⟨?_, ?_, ?_, ?_, ?_⟩
  · rw [show 8 * (j + 1) = 8 * j + 8 by omega, ← hv, show ((M.length - (8 * j + 8) : Nat) : Int) = ((M.length - 8 * j : Nat) : Int) - 8 by omega]
    exact b6
  · rw [bytesOf_snoc, ← wrap_low (hbit.drop _)]
    exact own6
  · exact (md.out.then_ tu5 fun b hb he => new_foot md.new hb he).then_ t6 fun b _ he => .inl he
  · exact md.new.trans md.out.size ne5
  · have := md.bas
    have h1 := tu5.size
    have h2 := t6.size
    omega

theorem mid_end {B g j : Nat} {M : List Int} {v v' : Value} {w wr : World} (md : Mid B g M v w wr j v' (val (M.drop (8 * j)))) (hbit : Bit M) (hj : 8 * j ≤ M.length) (h8 : ¬ 8 ≤ M.length - 8 * j) : Wr wr B g v' M := by
  obtain rfl : j = M.length / 8 := by omega
  refine ⟨?_, md.own, hbit⟩
  rw [show M.length % 8 = M.length - 8 * (M.length / 8) by omega]
  exact md.blk

set_option maxHeartbeats 1600000 in
theorem put_any (B g : Nat) (x n : Int) (N : Nat) (m : List Int) (v : Value) (w : World) (hx : 0 ≤ x ∧ x < 4294967296) (hn : -9223372036854775808 ≤ n ∧ n ≤ 9223372036854775807) (hN : clampN n = N) (W : Wr w B g v m) (hB : B ≤ w.heap.size) (hlen : m.length ≤ 1000000) :
    Calls Tryd.prog 44 #[.pointer (some ⟨g, 0, none⟩), .int .u32 x, .int .i64 n] w (Puts B g (m ++ num x N) v w) := by
  obtain ⟨p, h1⟩ : ∃ p, (if n < 0 then 0 else n) = p := ⟨_, rfl⟩
  have h2 : (if 32 < p then 32 else p) = (N : Int) := by rw [← hN, ← h1]; exact clamp_eq n
  have hN : N ≤ 32 := by rw [← hN]; exact clamp_le n
  obtain ⟨q, hq⟩ : ∃ q, m.length / 8 = q := ⟨_, rfl⟩
  obtain ⟨f, hf⟩ : ∃ f, m.length % 8 = f := ⟨_, rfl⟩
  have hdl : (m.drop (8 * q)).length = f := by simp; omega
  have hv := put_bits (m.drop (8 * q)) x N (W.bit.drop _) (by omega) hN hx
  rw [hdl, ← List.drop_append_of_le_length (by omega : 8 * q ≤ m.length)] at hv
  have blk := W.blk
  rw [hq, hf] at blk
  obtain ⟨r, hr⟩ : ∃ r, val (m.drop (8 * q)) = r := ⟨_, rfl⟩
  rw [hr] at hv blk
  have c0 : w.cell? ⟨g, 0, none⟩ = some v := blk.cell 0
  have c1 : w.cell? ⟨g, 1, none⟩ = some (.int .u64 r) := blk.cell 1
  have c2 : w.cell? ⟨g, 2, none⟩ = some (.int .i64 (f : Int)) := blk.cell 2
  have ff := fun i => blk.frozen i
  have hf8 : f < 8 := by omega
  have own0 := W.own
  rw [hq] at own0
  rw [← bytesOf_left q m (num x N) (by omega)] at own0
  have hML : m.length + N = (m ++ num x N).length := by simp [num_length]
  have hbit : Bit (m ++ num x N) := W.bit.append (num_bit _ _)
  have hqf : 8 * q + f = m.length := by omega
  have HV := Lib.hid hv
  have Hbit := Lib.hid hbit
  have HML := Lib.hid hML
  generalize m ++ num x N = M at *
  have Hqf := Lib.hid hqf
  have HQ := Lib.hid hq
  clear hf hr hv hdl hq hbit hML hqf W
  go_enter Tryd.func44, Tryd.ntmps44
  go_wp2_with fail
  go_region
  all_goals
    rw [HV.out]
    have b1 := blk.set_ 1 (.int .u64 (val (M.drop (8 * q))))
    have o1 := (TurnsIn.refl (foot g v) w).setCell (p := ⟨g, 1, none⟩) (.inl (.inl rfl)) (.int .u64 (val (M.drop (8 * q))))
    have own1 := own0.out ((TurnsIn.refl (· = g) w).setCell (p := ⟨g, 1, none⟩) (.inl rfl) (.int .u64 (val (M.drop (8 * q))))) (fun b hb he => own0.ne_block blk (by decide) (he ▸ hb))
    have d2 : (w.setCell ⟨g, 1, none⟩ (.int .u64 (val (M.drop (8 * q))))).cell? ⟨g, 2, none⟩ = some (.int .i64 f) := b1.cell 2
    have fd := fun i => b1.frozen i
    clear c0 c1 c2 ff blk own0
    generalize w.setCell ⟨g, 1, none⟩ (.int .u64 (val (M.drop (8 * q)))) = w1 at *
    go_wp2_with fail
    have b2 := b1.set_ 2 (.int .i64 (f + N))
    have o2 := o1.setCell (p := ⟨g, 2, none⟩) (.inl (.inl rfl)) (.int .i64 (f + N))
    have own2 := own1.out ((TurnsIn.refl (· = g) w1).setCell (p := ⟨g, 2, none⟩) (.inl rfl) (.int .i64 (f + N))) (fun b hb he => own1.ne_block b1 (by decide) (he ▸ hb))
    have e1 : f + N = M.length - 8 * q := by have := Hqf.out; have := HML.out; omega
    have e2 : 8 * q ≤ M.length := by have := Hqf.out; have := HML.out; omega
    have e3 : M.length ≤ 1000100 := by have := HML.out; omega
    rw [show (f : Int) + N = ((M.length - 8 * q : Nat) : Int) by omega] at *
    clear d2 fd b1 o1 own1
    generalize w1.setCell ⟨g, 2, none⟩ (.int .i64 ((M.length - 8 * q : Nat) : Int)) = w2 at *
    go_loopg [] (M.length - 8 * q) (fun k wr => ∃ (j : Nat) (v' : Value), k = M.length - 8 * j ∧ q ≤ j ∧ 8 * j ≤ M.length ∧ Mid B g M v w wr j v' (val (M.drop (8 * j))))
    case atStart => exact ⟨q, v, rfl, Nat.le_refl _, e2, ⟨b2.drewN 1, own2.drewN 1, o2.drewN 1, Newer.refl _ _, by have := o2.size; show B ≤ w2.heap.size; omega⟩⟩
    case round =>
      obtain ⟨j, v', hk, hqj, hj, md⟩ := hrel
      have q0 : wr.cell? ⟨g, 0, none⟩ = some v' := md.blk.cell 0
      have q1 : wr.cell? ⟨g, 1, none⟩ = some (.int .u64 (val (M.drop (8 * j)))) := md.blk.cell 1
      have q2 : wr.cell? ⟨g, 2, none⟩ = some (.int .i64 ((M.length - 8 * j : Nat) : Int)) := md.blk.cell 2
      have fq := fun i => md.blk.frozen i
      by_cases h8 : 8 ≤ M.length - 8 * j
      · have hd : decide ((8 : Int) ≤ ((M.length - 8 * j : Nat) : Int)) = true := decide_eq_true (by omega)
        have hlj : (bytesOf j M).length ≤ 1000000 := by rw [bytesOf_length]; omega
        have hBs : B ≤ wr.heap.size := md.bas
        have qa : ∀ o, (wr.alloc o).cell? ⟨g, 0, none⟩ = some v' := fun o => (md.blk.alloc o).cell 0
        go_wp2_with fail
        go_region_law ((refine step_append_one_drew (z := IntKind.u8.wrap (val (M.drop (8 * j)))) (by rfl) _ _ _ (by rfl) elem8 (by exact md.own) (by rfl) (by rfl) (by omega) hBs (by exact md.blk) (by decide) ?_; intro A5 c5 w5 own5 tu5 ne5 blk5; have s0 := blk5.cell 0; have s1 := blk5.cell 1; have s2 := blk5.cell 2; have fs := fun i => blk5.frozen i))
        all_goals
          clear q0 q1 q2 fq qa
          clear s0 s1 s2 fs
          have hn := mid_next md Hbit.out h8 own5 tu5 ne5 blk5
          have s0 : w5.cell? ⟨g, 0, none⟩ = some v' := blk5.cell 0
          have s1 : w5.cell? ⟨g, 1, none⟩ = some (.int .u64 (val (M.drop (8 * j)))) := blk5.cell 1
          have s2 : w5.cell? ⟨g, 2, none⟩ = some (.int .i64 ((M.length - 8 * j : Nat) : Int)) := blk5.cell 2
          have fs := fun i => blk5.frozen i
          go_wp2_with fail
          go_roundg (M.length - 8 * (j + 1))
          case measure => omega
          case rel => exact ⟨j + 1, _, rfl, by omega, by omega, hn⟩
      · have hd : decide ((8 : Int) ≤ ((M.length - 8 * j : Nat) : Int)) = false := decide_eq_false (by omega)
        go_wp2_with fail
        go_end0
        exact ⟨rfl, v', mid_end md Hbit.out hj h8, md.out, md.new⟩
end Go.Proofs.YthmkeflkhocobaaDoor.Bits
