/-
  Layer 8, bits: the rest of a writer: Align, Raw, Len, Bytes. Conditions: as each theorem names.
-/
import Derived.Test.YthmkeflkhocobaaDoorMBitR
import Derived.BigQuiet
import Derived.Deep.QuietTactic
namespace Go.Proofs.YthmkeflkhocobaaDoor.Bits
open Go.ChangeShapes Go.WideShapes Go.ChangeAt Go.RowKit Go.Proofs.YthmkeflkhocobaaDoor.Kit

theorem num_zero : ∀ n, num 0 n = List.replicate n 0
  | 0 => rfl
  | n + 1 => by rw [num, show (0 : Int) / 2 = 0 by decide, num_zero n]; rfl

theorem new_wr (w : World) : Calls Tryd.prog 35 #[] w fun e w' => e = .returned (.pointer (some ⟨w.heap.size, 0, none⟩)) ∧ Wr w' w.heap.size w.heap.size (.slice none 0 0) [] ∧ Below w.heap.size w w' := by
  go_enter Tryd.func35, Tryd.ntmps35
  go_wp2
  go_ret
  exact ⟨rfl, ⟨Block.new w 104 #[.slice none 0 0, .int .u64 0, .int .i64 0], Own.nil _ _ _ _, Bit.nil⟩, (Below.refl _ _).alloc (Nat.le_refl _) _⟩

theorem Wr.refl_ {w : World} {B g : Nat} {v : Value} {m : List Int} (W : Wr w B g v m) (hm : m.length % 8 = 0) : Wr w B g v (pad m) := by
  rw [pad, hm]
  simpa using W

set_option maxHeartbeats 800000 in
theorem align_any (B g : Nat) (m : List Int) (v : Value) (w : World) (W : Wr w B g v m) (hB : B ≤ w.heap.size) (hlen : m.length ≤ 1000000) :
    Calls Tryd.prog 47 #[.pointer (some ⟨g, 0, none⟩)] w (Puts B g (pad m) v w) := by
  have c2 : w.cell? ⟨g, 2, none⟩ = some (.int .i64 ((m.length % 8 : Nat) : Int)) := W.blk.cell 2
  obtain ⟨f, hf⟩ : ∃ f, m.length % 8 = f := ⟨_, rfl⟩
  have hf8 : f < 8 := by omega
  by_cases h0 : f = 0
  · have hp : Wr w B g v (pad m) := W.refl_ (by omega)
    rw [hf, h0] at c2
    clear hf h0 hf8
    go_enter Tryd.func47, Tryd.ntmps47
    go_wp2_with fail
    go_end0
    exact ⟨rfl, v, hp, TurnsIn.refl _ _, Newer.refl _ _⟩
  · have G := put_any B g 0 (8 - f) (8 - f) m v w (by omega) (by omega) (by unfold clampN; rw [if_neg (by omega), if_neg (by omega)]; omega) W hB hlen
    have hd : decide ((0 : Int) < (f : Int)) = true := decide_eq_true (by omega)
    rw [num_zero, show 8 - f = (8 - m.length % 8) % 8 by omega, ← pad] at G
    rw [hf] at c2
    have hd2 := Lib.hid G
    clear hf G
    go_enter Tryd.func47, Tryd.ntmps47
    go_wp2_with (go_at_call 44; refine hd2.out.mono ?_; rintro e w2 ⟨rfl, hp⟩)
    go_end0
    exact ⟨rfl, hp⟩

theorem foot_not {B g b : Nat} {v : Value} {w : World} {m : List Int} (W : Wr w B g v m) (hg : B ≤ g) (hb : b < B) : ¬ foot g v b := by
  rintro (h | h)
  · omega
  · have := W.own.lt b h
    omega

/-- Whole bytes behind whole bytes. -/
theorem wr_raw {B g : Nat} {m ys : List Int} {v v' : Value} {w w' : World} (W : Wr w B g v (pad m)) (hy : Octets ys)
    (blk : Block w' g 104 #[v', .int .u64 (val ((pad m).drop (8 * ((pad m).length / 8)))), .int .i64 (((pad m).length % 8 : Nat) : Int)])
    (own : Own w' B 5 .u8 v' (bytesOf ((pad m).length / 8) (pad m) ++ ys)) : Wr w' B g v' (pad m ++ bitsOf ys) := by
  have hl := pad_length m
  obtain ⟨k, hk⟩ : ∃ k, (m.length + 7) / 8 = k := ⟨_, rfl⟩
  rw [hk] at hl
  have hL : (pad m ++ bitsOf ys).length = 8 * (k + ys.length) := by rw [List.length_append, hl, bitsOf_length]; omega
  have e1 : (pad m).length / 8 = k := by omega
  have e2 : (pad m ++ bitsOf ys).length / 8 = k + ys.length := by omega
  refine ⟨?_, ?_, W.bit.append (bitsOf_bit ys)⟩
  · rw [e2, hL, show 8 * (k + ys.length) % 8 = 0 by omega, List.drop_eq_nil_of_le (by omega)]
    rw [e1, hl, show 8 * k % 8 = 0 by omega, List.drop_eq_nil_of_le (by omega)] at blk
    exact blk
  · rw [e2, bytesOf_join k ys.length (pad m) (bitsOf ys) hl, bytesOf_bits ys hy]
    rw [e1] at own
    exact own

set_option maxHeartbeats 1600000 in
theorem raw_any (B g : Nat) (A : Option Addr) (ys : List Int) (c : Nat) (m : List Int) (v : Value) (w : World) (W : Wr w B g v m) (hB : B ≤ w.heap.size) (hg : B ≤ g) (hlen : m.length ≤ 1000000)
    (hy : Octets ys) (hr : Holds w B .u8 A ys) (hyl : ys.length ≤ 1000000) :
    Calls Tryd.prog 48 #[.pointer (some ⟨g, 0, none⟩), .slice A ys.length c] w (Puts B g (pad m ++ bitsOf ys) v w) := by
  have G := Lib.hid (align_any B g m v w W hB hlen)
  have hpl := pad_length m
  have hbl : (bytesOf ((pad m).length / 8) (pad m)).length ≤ 1000000 := by rw [bytesOf_length]; omega
  clear hpl
  go_enter Tryd.func48, Tryd.ntmps48
  go_wp2_with fail
  refine (G.out).mono ?_
  rintro e w1 ⟨rfl, v1, W1, t1, n1⟩
  have hs1 := t1.size
  have hr1 := hr.out t1 hB (fun b hb => foot_not W hg hb)
  have c0 : w1.cell? ⟨g, 0, none⟩ = some v1 := W1.blk.cell 0
  go_wp2_with (at_builtin; refine wpList_append_ints (ys := ys) _ rfl _ _ _ rfl elem8 W1.own rfl rfl hr1 (by omega) (by omega) ?_; intro v5 w5 own5 hg5 hb5 hv5; obtain ⟨A5, c5, rfl, _, _, _⟩ := own5.opened; have b5 := W1.blk.grown hg5 (W1.own.ne_block W1.blk (by decide)); have s0 := b5.cell 0; have fs := fun i => b5.frozen i)
  go_end0
  have hn : Newer w v (.slice A5 ((bytesOf ((pad m).length / 8) (pad m)).length + ys.length) c5) := n1.trans hs1 (Newer.ofApp (by rw [← List.length_append]; exact hv5))
  have t5 : TurnsIn (foot g v) w w5 := t1.then_ (TurnsIn.ofGrown hg5 (S := fun b => v1.ownBlock = some b) fun b hb => hb) fun b hb he => new_foot n1 hb he
  have b6 := b5.set_ 0 (.slice A5 ((bytesOf ((pad m).length / 8) (pad m)).length + ys.length) c5)
  have t6 := (TurnsIn.refl (· = g) w5).setCell (p := ⟨g, 0, none⟩) (.inl rfl) (.slice A5 ((bytesOf ((pad m).length / 8) (pad m)).length + ys.length) c5)
  rw [List.length_append] at own5
  have own6 := own5.out t6 (fun b hb he => own5.ne_block b5 (by decide) (he ▸ hb))
  exact ⟨rfl, _, wr_raw W1 hy b6 own6, t5.then_ t6 fun b _ he => .inl he, hn⟩

/-- What Bytes gives: a new row. -/
def GivesRow (xs : List Int) (w : World) (e : Ending) (w' : World) : Prop := ∃ v, e = .returned v ∧ Own w' w.heap.size 5 .u8 v xs ∧ Below w.heap.size w w'

set_option maxHeartbeats 1600000 in
theorem wbytes_any (B g : Nat) (m : List Int) (v : Value) (w : World) (W : Wr w B g v m) (hlen : m.length ≤ 1000000) :
    Calls Tryd.prog 39 #[.pointer (some ⟨g, 0, none⟩)] w (GivesRow (bytesOf ((m.length + 7) / 8) m) w) := by
  obtain ⟨A, c, rfl, _, _, hr⟩ := W.own.opened
  have c0 : w.cell? ⟨g, 0, none⟩ = some (.slice A (bytesOf (m.length / 8) m).length c) := W.blk.cell 0
  have hl := bytesOf_length (m.length / 8) m
  obtain ⟨f, hf⟩ : ∃ f, m.length % 8 = f := ⟨_, rfl⟩
  have hb2 : f < 8 := by omega
  by_cases h0 : f = 0
  · have hR : bytesOf ((m.length + 7) / 8) m = bytesOf (m.length / 8) m := by rw [show (m.length + 7) / 8 = m.length / 8 by omega]
    rw [hR]
    generalize bytesOf (m.length / 8) m = xs at *
    have hx : xs.length ≤ 1000000 := by omega
    have Hf := Lib.hid hf
    clear hf hR hl hb2
    go_enter Tryd.func39, Tryd.ntmps39
    go_wp2_with (at_builtin; refine wpList_append_ints (xs := []) (ys := xs) _ rfl _ _ _ rfl elem8 (Own.nil w w.heap.size _ _) rfl rfl hr (by simp; omega) (Nat.le_refl _) ?_; intro v3 w3 own3 hg3 hb3 hv3; have blk3 := W.blk.below hb3 W.blk.lt; have q2 : w3.cell? ⟨g, 2, none⟩ = some (.int .i64 ((m.length % 8 : Nat) : Int)) := blk3.cell 2; rw [Hf.out, h0] at q2)
    go_ret
    exact ⟨_, rfl, own3, hb3⟩
  · have hR : bytesOf ((m.length + 7) / 8) m = bytesOf (m.length / 8) m ++ [IntKind.u8.wrap (val (m.drop (8 * (m.length / 8))))] := by
      rw [show (m.length + 7) / 8 = m.length / 8 + 1 by omega, bytesOf_snoc, wrap_low (W.bit.drop _)]
    have blk := W.blk
    rw [hR]
    rw [hf] at blk
    generalize val (m.drop (8 * (m.length / 8))) = r at *
    generalize bytesOf (m.length / 8) m = xs at *
    have hx : xs.length ≤ 1000000 := by omega
    have hd : decide ((0 : Int) < (f : Int)) = true := decide_eq_true (by omega)
    clear hf hR hl hb2 W
    go_enter Tryd.func39, Tryd.ntmps39
    go_wp2_with (first
      | (have _t := own3; at_builtin; refine wpList_append_one (z := IntKind.u8.wrap r) _ rfl _ _ _ rfl elem8 own3 rfl rfl (by simp; omega) hb3.size ?_; clear _t; intro v4 w4 own4 hg4 hb4)
      | (at_builtin; refine wpList_append_ints (xs := []) (ys := xs) _ rfl _ _ _ rfl elem8 (Own.nil w w.heap.size _ _) rfl rfl hr (by simp; omega) (Nat.le_refl _) ?_; intro v3 w3 own3 hg3 hb3 hv3; have blk3 := blk.below hb3 blk.lt; have q1 : w3.cell? ⟨g, 1, none⟩ = some (.int .u64 r) := blk3.cell 1; have q2 : w3.cell? ⟨g, 2, none⟩ = some (.int .i64 (f : Int)) := blk3.cell 2))
    go_ret
    exact ⟨_, rfl, own4, hb3.trans hb4⟩
end Go.Proofs.YthmkeflkhocobaaDoor.Bits
