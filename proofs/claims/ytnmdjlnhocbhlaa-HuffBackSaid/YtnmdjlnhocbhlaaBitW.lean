/-
  Layer 8, bits: the rest of a writer: Align, Raw, Len, Bytes. Conditions: as each theorem names.
-/
import Derived.Test.YtnmdjlnhocbhlaaBitR
import Derived.BigQuiet
import Derived.Deep.QuietTactic
namespace Go.Proofs.Ytnmdjlnhocbhlaa.Bits
open Go.ChangeShapes Go.WideShapes Go.ChangeAt Go.RowKit Go.Proofs.Ytnmdjlnhocbhlaa.Kit

theorem num_zero : ∀ n, num 0 n = List.replicate n 0
  | 0 => rfl
  | n + 1 => by rw [num, show (0 : Int) / 2 = 0 by decide, num_zero n]; rfl

theorem new_wr (w : World) : Calls Try.prog 19 #[] w fun e w' => e = .returned (.pointer (some ⟨w.heap.size, 0, none⟩)) ∧ Wr w' w.heap.size w.heap.size (.slice none 0 0) [] ∧ Below w.heap.size w w' := by
  go_enter Try.func19, Try.ntmps19
  go_wp2
  go_ret
  exact ⟨rfl, ⟨Block.new w 63 #[.slice none 0 0, .int .u64 0, .int .i64 0], Own.nil _ _ _ _, Bit.nil⟩, (Below.refl _ _).alloc (Nat.le_refl _) _⟩

theorem Wr.refl_ {w : World} {B g : Nat} {v : Value} {m : List Int} (W : Wr w B g v m) (hm : m.length % 8 = 0) : Wr w B g v (pad m) := by
  rw [pad, hm]
  simpa using W

theorem foot_not {B g b : Nat} {v : Value} {w : World} {m : List Int} (W : Wr w B g v m) (hg : B ≤ g) (hb : b < B) : ¬ foot g v b := by
  rintro (h | h)
  · omega
  · have := W.own.lt b h
    omega

/-- Whole bytes behind whole bytes. -/
theorem wr_raw {B g : Nat} {m ys : List Int} {v v' : Value} {w w' : World} (W : Wr w B g v (pad m)) (hy : Octets ys)
    (blk : Block w' g 63 #[v', .int .u64 (val ((pad m).drop (8 * ((pad m).length / 8)))), .int .i64 (((pad m).length % 8 : Nat) : Int)])
    (own : Own w' B 5 .u8 v' (bytesOf ((pad m).length / 8) (pad m) ++ ys)) : Wr w' B g v' (pad m ++ bitsOf ys) := by
  have hl := pad_length m
  obtain ⟨k, hk⟩ : ∃ k, (m.length + 7) / 8 = k := ⟨_, rfl⟩
  rw [hk] at hl
  have hL : (pad m ++ bitsOf ys).length = 8 * (k + ys.length) := by rw [List.length_append, hl, bitsOf_length]; omega
  have e1 : (pad m).length / 8 = k := by omega
  have e2 : (pad m ++ bitsOf ys).length / 8 = k + ys.length := by omega
  refine ⟨?_, ?_, W.bit.append (bitsOf_bit ys)⟩
  · rw [e2, hL, show 8 * (k + ys.length) % 8 = 0 by omega, List.drop_eq_nil_of_le (by omega)]
    rw [e1, hl, show 8 * k % 8 = 0 by omega, List.drop_eq_nil_of_le (by omega)] at blk
    exact blk
  · rw [e2, bytesOf_join k ys.length (pad m) (bitsOf ys) hl, bytesOf_bits ys hy]
    rw [e1] at own
    exact own

set_option maxHeartbeats 800000 in
theorem len_any (B g : Nat) (m : List Int) (v : Value) (w : World) (W : Wr w B g v m) (hlen : m.length ≤ 1000000) :
    Calls Try.prog 22 #[.pointer (some ⟨g, 0, none⟩)] w fun e w' => e = .returned (.int .i64 (m.length : Int)) ∧ Below w.heap.size w w' := by
  obtain ⟨A, c, rfl, _, _, _⟩ := W.own.opened
  have c0 : w.cell? ⟨g, 0, none⟩ = some (.slice A (bytesOf (m.length / 8) m).length c) := W.blk.cell 0
  have c2 : w.cell? ⟨g, 2, none⟩ = some (.int .i64 ((m.length % 8 : Nat) : Int)) := W.blk.cell 2
  rw [bytesOf_length] at c0
  obtain ⟨q, hq⟩ : ∃ q, m.length / 8 = q := ⟨_, rfl⟩
  obtain ⟨f, hf⟩ : ∃ f, m.length % 8 = f := ⟨_, rfl⟩
  rw [hq] at c0
  rw [hf] at c2
  have hfin : 8 * (q : Int) + f = (m.length : Int) := by omega
  have hb1 : q ≤ 1000000 := by omega
  have hb2 : f < 8 := by omega
  have HF := Lib.hid hfin
  clear hfin hq hf W
  go_enter Try.func22, Try.ntmps22
  go_wp2_with fail
  go_quiet (fail)
  go_wp2_with fail
  go_ret
  exact ⟨congrArg (fun z => Ending.returned (.int .i64 z)) HF.out, below_draws (Below.refl _ _) _⟩

/-- What Bytes gives: a new row. -/
def GivesRow (xs : List Int) (w : World) (e : Ending) (w' : World) : Prop := ∃ v, e = .returned v ∧ Own w' w.heap.size 5 .u8 v xs ∧ Below w.heap.size w w'

set_option maxHeartbeats 1600000 in
theorem wbytes_any (B g : Nat) (m : List Int) (v : Value) (w : World) (W : Wr w B g v m) (hlen : m.length ≤ 1000000) :
    Calls Try.prog 21 #[.pointer (some ⟨g, 0, none⟩)] w (GivesRow (bytesOf ((m.length + 7) / 8) m) w) := by
  obtain ⟨A, c, rfl, _, _, hr⟩ := W.own.opened
  have c0 : w.cell? ⟨g, 0, none⟩ = some (.slice A (bytesOf (m.length / 8) m).length c) := W.blk.cell 0
  have hl := bytesOf_length (m.length / 8) m
  obtain ⟨f, hf⟩ : ∃ f, m.length % 8 = f := ⟨_, rfl⟩
  have hb2 : f < 8 := by omega
  by_cases h0 : f = 0
  · have hR : bytesOf ((m.length + 7) / 8) m = bytesOf (m.length / 8) m := by rw [show (m.length + 7) / 8 = m.length / 8 by omega]
    rw [hR]
    generalize bytesOf (m.length / 8) m = xs at *
    have hx : xs.length ≤ 1000000 := by omega
    have Hf := Lib.hid hf
    clear hf hR hl hb2
    go_enter Try.func21, Try.ntmps21
    go_wp2_with (at_builtin; refine wpList_append_ints (xs := []) (ys := xs) _ rfl _ _ _ rfl elem8 (Own.nil w w.heap.size _ _) rfl rfl hr (by simp; omega) (Nat.le_refl _) ?_; intro v3 w3 own3 hg3 hb3 hv3; have blk3 := W.blk.below hb3 W.blk.lt; have q2 : w3.cell? ⟨g, 2, none⟩ = some (.int .i64 ((m.length % 8 : Nat) : Int)) := blk3.cell 2; rw [Hf.out, h0] at q2)
    go_ret
    exact ⟨_, rfl, own3, hb3⟩
  · have hR : bytesOf ((m.length + 7) / 8) m = bytesOf (m.length / 8) m ++ [IntKind.u8.wrap (val (m.drop (8 * (m.length / 8))))] := by
      rw [show (m.length + 7) / 8 = m.length / 8 + 1 by omega, bytesOf_snoc, wrap_low (W.bit.drop _)]
    have blk := W.blk
    rw [hR]
    rw [hf] at blk
    generalize val (m.drop (8 * (m.length / 8))) = r at *
    generalize bytesOf (m.length / 8) m = xs at *
    have hx : xs.length ≤ 1000000 := by omega
    have hd : decide ((0 : Int) < (f : Int)) = true := decide_eq_true (by omega)
    clear hf hR hl hb2 W
    go_enter Try.func21, Try.ntmps21
    go_wp2_with (first
      | (have _t := own3; at_builtin; refine wpList_append_one (z := IntKind.u8.wrap r) _ rfl _ _ _ rfl elem8 own3 rfl rfl (by simp; omega) hb3.size ?_; clear _t; intro v4 w4 own4 hg4 hb4)
      | (at_builtin; refine wpList_append_ints (xs := []) (ys := xs) _ rfl _ _ _ rfl elem8 (Own.nil w w.heap.size _ _) rfl rfl hr (by simp; omega) (Nat.le_refl _) ?_; intro v3 w3 own3 hg3 hb3 hv3; have blk3 := blk.below hb3 blk.lt; have q1 : w3.cell? ⟨g, 1, none⟩ = some (.int .u64 r) := blk3.cell 1; have q2 : w3.cell? ⟨g, 2, none⟩ = some (.int .i64 (f : Int)) := blk3.cell 2))
    go_ret
    exact ⟨_, rfl, own4, hb3.trans hb4⟩
end Go.Proofs.Ytnmdjlnhocbhlaa.Bits
