/-
  Layer 8, bits: a reader's Get and Raw. Conditions: as each theorem names.
-/
import Derived.Test.YthflefdchgpbdaaDoorMGIces4
namespace Go.Proofs.YthflefdchgpbdaaDoor.Bits
open Go.ChangeShapes Go.WideShapes Go.ChangeAt Go.RowKit Go.Proofs.YthflefdchgpbdaaDoor.Kit

theorem get_arg (B g : Nat) (v : Value) (bs : List Int) (p : Nat) (n : Int) (w : World) (hn : n < 0 ∨ 32 < n) :
    Calls Tryd.prog 58 #[.pointer (some ⟨g, 0, none⟩), .int .i64 n] w fun e w' => e = .returned (.tuple #[.int .u32 0, .int .i64 1]) ∧ w = w' := by
  by_cases h0 : n < 0
  · have d0 : decide (n < 0) = true := decide_eq_true h0
    go_enter Tryd.func58, Tryd.ntmps58
    go_wp2_with fail
    go_ret2
    exact ⟨rfl, rfl⟩
  · have d0 : decide (n < 0) = false := decide_eq_false h0
    have d1 : decide (32 < n) = true := decide_eq_true (by omega)
    go_enter Tryd.func58, Tryd.ntmps58
    go_wp2_with fail
    go_ret2
    exact ⟨rfl, rfl⟩

theorem get_short (B g : Nat) (v : Value) (bs : List Int) (p n : Nat) (w : World) (R : Rd w B g v bs p) (hl : bs.length ≤ 1000000) (hn : n ≤ 32) (hs : 8 * bs.length < p + n) :
    Calls Tryd.prog 58 #[.pointer (some ⟨g, 0, none⟩), .int .i64 (n : Int)] w fun e w' => e = .returned (.tuple #[.int .u32 0, .int .i64 2]) ∧ Below w.heap.size w w' := by
  have d0 : decide ((n : Int) < 0) = false := decide_eq_false (by omega)
  have d1 : decide (32 < (n : Int)) = false := decide_eq_false (by omega)
  have d2 : decide (8 * (bs.length : Int) - (p : Int) < n) = true := decide_eq_true (by omega)
  have G := Lib.hid (left_any B g v bs p w R hl)
  clear R
  go_enter Tryd.func58, Tryd.ntmps58
  go_wp2_with (go_at_call 36; refine G.out.mono ?_; rintro e w1 ⟨rfl, hb1⟩)
  go_ret2
  exact ⟨rfl, hb1⟩

set_option maxHeartbeats 1600000 in
theorem get_ok (B g : Nat) (v : Value) (bs : List Int) (p n : Nat) (w : World) (R : Rd w B g v bs p) (ho : Octets bs) (hl : bs.length ≤ 1000000) (hn : n ≤ 32) (hs : p + n ≤ 8 * bs.length) :
    Calls Tryd.prog 58 #[.pointer (some ⟨g, 0, none⟩), .int .i64 (n : Int)] w fun e w' => e = .returned (.tuple #[.int .u32 (val (((bitsOf bs).drop p).take n)), .int .i64 0]) ∧ Rd w' B g v bs (p + n) ∧ TurnsIn (· = g) w w' := by
  have d0 : decide ((n : Int) < 0) = false := decide_eq_false (by omega)
  have d1 : decide (32 < (n : Int)) = false := decide_eq_false (by omega)
  have d2 : decide (8 * (bs.length : Int) - (p : Int) < n) = false := decide_eq_false (by omega)
  have G := Lib.hid (left_any B g v bs p w R hl)
  have hv := read_val bs p n hn hs
  obtain ⟨k, hk⟩ : ∃ k, p / 8 = k := ⟨_, rfl⟩
  obtain ⟨r, hr⟩ : ∃ r, p % 8 = r := ⟨_, rfl⟩
  rw [hk, hr] at hv
  have e1 : (p : Int) / 8 = (k : Int) := by omega
  have e2 : (p : Int) % 8 = (r : Int) := by omega
  have hk1 : k ≤ bs.length := by omega
  have hr1 : r < 8 := by omega
  have hlen5 : ((bs.drop k).take 5).length ≤ 5 := List.length_take_le _ _
  have hx0 := val_bd (bitsOf_bit ((bs.drop k).take 5))
  have hx1 : (2 : Int) ^ (bitsOf ((bs.drop k).take 5)).length ≤ 2 ^ 40 := p2_le (by rw [bitsOf_length]; omega)
  rw [show (2 : Int) ^ 40 = 1099511627776 by decide] at hx1
  have hy0 : 0 ≤ val (bitsOf ((bs.drop k).take 5)) / 2 ^ r ∧ val (bitsOf ((bs.drop k).take 5)) / 2 ^ r < 1099511627776 := by
    have := p2_pos r
    exact ⟨Int.ediv_nonneg hx0.1 (by omega), Int.lt_of_le_of_lt (Int.ediv_le_self _ hx0.1) (by omega)⟩
  have hand := and_low (val (bitsOf ((bs.drop k).take 5)) / 2 ^ r) n (by omega) (by omega)
  rw [hv] at hand
  have hres := val_bd (((bitsOf_bit bs).drop p).take n)
  have hres2 : (2 : Int) ^ (((bitsOf bs).drop p).take n).length ≤ 2 ^ 32 := p2_le (by simp; omega)
  rw [show (2 : Int) ^ 32 = 4294967296 by decide] at hres2
  have hres3 : 0 ≤ val (((bitsOf bs).drop p).take n) ∧ val (((bitsOf bs).drop p).take n) < 4294967296 := by omega
  generalize val (((bitsOf bs).drop p).take n) = z at *
  have Hand := Lib.hid hand
  have Hk := Lib.hid hk
  have Hr := Lib.hid hr
  clear hand hv hk hr hres hres2 hx1 hx0
  go_enter Tryd.func58, Tryd.ntmps58
  go_wp2_with fail
  refine G.out.mono ?_
  rintro e w1 ⟨rfl, hb1⟩
  have R1 := R.below hb1
  obtain ⟨A, c, rfl, _, _, hrow⟩ := R1.own.opened
  have c0 : w1.cell? ⟨g, 0, none⟩ = some (.slice A bs.length c) := R1.blk.cell 0
  have c1 : w1.cell? ⟨g, 1, none⟩ = some (.int .i64 (p : Int)) := R1.blk.cell 1
  have hfr := R1.blk.frozen 1
  go_wp2_with fail
  go_loop [6, 8] (fun x s => ∃ j : Nat, j ≤ 5 ∧ k + j ≤ bs.length ∧ s = .int .i64 ((k + j : Nat) : Int) ∧ x = .int .u64 (val (bitsOf ((bs.drop k).take j)))) (fun _ s => k + 5 - (intOf s).toNat)
  case atStart => exact ⟨0, by omega, by omega, rfl, rfl⟩
  case round =>
    obtain ⟨j, hj5, hjl, rfl, rfl⟩ := hrel
    by_cases hc : j < 5 ∧ k + j < bs.length
    · obtain ⟨hc5, hcl⟩ := hc
      have hci := (hrow (by omega)).choose_spec.choose_spec
      obtain ⟨bb, off, rfl, hbl, hcs⟩ := hrow (by omega)
      clear hci
      have hcell := hcs (k + j) hcl
      have hb := ho.at_ (k + j)
      have hsn : val (bitsOf ((bs.drop k).take (j + 1))) = val (bitsOf ((bs.drop k).take j)) + 2 ^ (8 * j) * bs.getD (k + j) 0 := by
        have hts : (bs.drop k).take (j + 1) = (bs.drop k).take j ++ [bs.getD (k + j) 0] := by
          rw [List.take_add_one, List.getElem?_drop]
          simp [List.getD, hcl]
        rw [hts, val_bits_snoc _ _ (by simpa [List.getD] using hb), List.length_take, List.length_drop, show min j (bs.length - k) = j by omega]
      have hvx := val_bd (bitsOf_bit ((bs.drop k).take j))
      rw [bitsOf_length, List.length_take, List.length_drop, show min j (bs.length - k) = j by omega] at hvx
      have hor := or_high (val (bitsOf ((bs.drop k).take j))) (bs.getD (k + j) 0) (8 * j) 8 hvx (by rw [show (2 : Int) ^ 8 = 256 by decide]; simp only [List.getD] at *; omega) (by omega)
      rw [← hsn] at hor
      have hb2 : 0 ≤ bs.getD (k + j) 0 ∧ bs.getD (k + j) 0 ≤ 255 := by simpa [List.getD] using hb
      have hvy : 0 ≤ val (bitsOf ((bs.drop k).take j)) ∧ val (bitsOf ((bs.drop k).take j)) < 18446744073709551616 := by
        have : (2 : Int) ^ (8 * j) ≤ 2 ^ 40 := p2_le (by omega)
        rw [show (2 : Int) ^ 40 = 1099511627776 by decide] at this
        omega
      generalize bs.getD (k + j) 0 = y at *
      generalize val (bitsOf ((bs.drop k).take j)) = x at *
      generalize hi : k + j = i at *
      have es : (i : Int) - (k : Int) = (j : Int) := by omega
      have t1 : decide (i < bs.length) = true := decide_eq_true (by omega)
      have t2 : decide ((i : Int) < (k : Int) + 5) = true := decide_eq_true (by omega)
      have hj0 : (0 : Int) ≤ 8 * (j : Int) := by omega
      have Hor := Lib.hid hor
      have Hi := Lib.hid hi
      clear hor hsn hcs hvx hb hi
      go_wp2_with fail
      go_round
      case rel => exact ⟨j + 1, by omega, by have := Hi.out; omega, congrArg (Value.int .i64) (by have := Hi.out; omega), by rw [Hor.out]⟩
      case measure => have := Hi.out; simp [intOf] <;> omega
    · have hx : (bs.drop k).take j = (bs.drop k).take 5 := by
        rcases (show j = 5 ∨ k + j = bs.length by omega) with rfl | h
        · rfl
        · rw [List.take_of_length_le (by simp; omega), List.take_of_length_le (by simp; omega)]
      rw [hx]
      have R2 := R1.set (q := p + n) (by omega)
      have t2 := (TurnsIn.ofNew (S := (· = g)) hb1).setCell (p := ⟨g, 1, none⟩) (.inl rfl) (.int .i64 ((p + n : Nat) : Int))
      rw [show ((p + n : Nat) : Int) = (p : Int) + (n : Int) by omega] at R2 t2
      generalize val (bitsOf ((bs.drop k).take 5)) = x at *
      have hp2 := p2_pos r
      generalize hi : k + j = i at *
      by_cases hil : i < bs.length
      · have t1 : decide (i < bs.length) = true := decide_eq_true hil
        have t3 : decide ((i : Int) < (k : Int) + 5) = false := decide_eq_false (by omega)
        have Hi := Lib.hid hi
        clear hi hx hc
        go_wp2_with fail
        go_ret2
        rw [Hand.out, show z % 4294967296 = z by omega]
        exact ⟨rfl, R2, t2⟩
      · have t1 : decide (i < bs.length) = false := decide_eq_false hil
        have Hi := Lib.hid hi
        clear hi hx hc
        go_wp2_with fail
        go_ret2
        rw [Hand.out, show z % 4294967296 = z by omega]
        exact ⟨rfl, R2, t2⟩

/-- What Raw leaves where it gives nothing. -/
def RawNo (B g : Nat) (v : Value) (bs : List Int) (p : Nat) (code : Int) (w : World) (e : Ending) (w' : World) : Prop := e = .returned (.tuple #[.slice none 0 0, .int .i64 code]) ∧ Rd w' B g v bs p ∧ TurnsIn (· = g) w w'
/-- What Raw leaves where it gives bytes. -/
def RawOk (B g : Nat) (v : Value) (bs xs : List Int) (p : Nat) (w : World) (e : Ending) (w' : World) : Prop := ∃ u, e = .returned (.tuple #[u, .int .i64 0]) ∧ Own w' w.heap.size 5 .u8 u xs ∧ Rd w' B g v bs p ∧ TurnsIn (· = g) w w'

theorem rraw_arg (B g : Nat) (v : Value) (bs : List Int) (p : Nat) (n : Int) (w : World) (R : Rd w B g v bs p) (hl : bs.length ≤ 1000000) (hn : n < 0) :
    Calls Tryd.prog 47 #[.pointer (some ⟨g, 0, none⟩), .int .i64 n] w (RawNo B g v bs ((p + 7) / 8 * 8) 1 w) := by
  have d0 : decide (n < 0) = true := decide_eq_true hn
  have G := Lib.hid (ralign_any B g v bs p w R hl)
  go_enter Tryd.func47, Tryd.ntmps47
  go_wp2_with (go_at_call 34; refine G.out.mono ?_; rintro e w1 ⟨rfl, R1, t1⟩)
  go_ret2
  exact ⟨rfl, R1, t1⟩

theorem rraw_short (B g : Nat) (v : Value) (bs : List Int) (p n : Nat) (w : World) (R : Rd w B g v bs p) (hl : bs.length ≤ 1000000) (hn : bs.length < (p + 7) / 8 + n) (hn2 : n ≤ 9223372036854775807) :
    Calls Tryd.prog 47 #[.pointer (some ⟨g, 0, none⟩), .int .i64 (n : Int)] w (RawNo B g v bs ((p + 7) / 8 * 8) 2 w) := by
  have d0 : decide ((n : Int) < 0) = false := decide_eq_false (by omega)
  have gg := ralign_any B g v bs p w R hl
  have hp := R.le
  generalize hq : (p + 7) / 8 * 8 = q at *
  have hqb : (q : Int) ≤ 8 * (bs.length : Int) := by omega
  have d1 : decide ((8 * (bs.length : Int) - (q : Int)) / 8 < (n : Int)) = true := decide_eq_true (by omega)
  have G := Lib.hid gg
  clear hq R hp hn gg
  go_enter Tryd.func47, Tryd.ntmps47
  go_wp2_with (go_at_call 34; refine G.out.mono ?_; rintro e w1 ⟨rfl, R1, t1⟩)
  refine (left_any B g v bs q w1 R1 hl).mono ?_
  rintro e w2 ⟨rfl, hb2⟩
  go_wp2_with fail
  go_ret2
  exact ⟨rfl, R1.below hb2, t1.then_ (TurnsIn.ofNew (S := (· = g)) hb2) fun b _ h => h⟩

set_option maxHeartbeats 800000 in
theorem rraw_ok (B g : Nat) (v : Value) (bs : List Int) (p n : Nat) (w : World) (R : Rd w B g v bs p) (hl : bs.length ≤ 1000000) (hn : (p + 7) / 8 + n ≤ bs.length) :
    Calls Tryd.prog 47 #[.pointer (some ⟨g, 0, none⟩), .int .i64 (n : Int)] w (RawOk B g v bs ((bs.drop ((p + 7) / 8)).take n) ((p + 7) / 8 * 8 + 8 * n) w) := by
  have d0 : decide ((n : Int) < 0) = false := decide_eq_false (by omega)
  have gg := ralign_any B g v bs p w R hl
  generalize hk : (p + 7) / 8 = k at *
  have d1 : decide ((8 * (bs.length : Int) - ((k * 8 : Nat) : Int)) / 8 < (n : Int)) = false := decide_eq_false (by omega)
  have hqb : ((k * 8 : Nat) : Int) ≤ 8 * (bs.length : Int) := by omega
  have e8 : ((k * 8 : Nat) : Int) / 8 = (k : Int) := by omega
  have hkn := hn
  have hx : ((bs.drop k).take n).length = n := by simp; omega
  have G := Lib.hid gg
  have HX := Lib.hid hx
  clear hk R hn gg hx
  generalize hq : k * 8 = q at *
  have HQ := Lib.hid hq
  clear hq
  go_enter Tryd.func47, Tryd.ntmps47
  go_wp2_with (go_at_call 34; refine G.out.mono ?_; rintro e w1 ⟨rfl, R1, t1⟩)
  refine (left_any B g v bs q w1 R1 hl).mono ?_
  rintro e w2 ⟨rfl, hb2⟩
  have R2 := R1.below hb2
  obtain ⟨A, c, rfl, hac, hcm, hrow⟩ := R2.own.opened
  have c0 : w2.cell? ⟨g, 0, none⟩ = some (.slice A bs.length c) := R2.blk.cell 0
  have c1 : w2.cell? ⟨g, 1, none⟩ = some (.int .i64 (q : Int)) := R2.blk.cell 1
  have hfr := R2.blk.frozen 1
  have R3 := R2.set (q := q + 8 * n) (by have := HQ.out; omega)
  rw [show ((q + 8 * n : Nat) : Int) = (q : Int) + 8 * (n : Int) by omega] at R3
  have t3 := (TurnsIn.refl (· = g) w2).setCell (p := ⟨g, 1, none⟩) (.inl rfl) (.int .i64 ((q : Int) + 8 * (n : Int)))
  have t2 : TurnsIn (· = g) w (w2.setCell ⟨g, 1, none⟩ (.int .i64 ((q : Int) + 8 * (n : Int)))) := (t1.then_ (TurnsIn.ofNew (S := (· = g)) hb2) fun b _ h => h).trans t3
  have hs2 := t2.size
  have hs3 : w.heap.size ≤ w2.heap.size := Nat.le_trans t1.size hb2.size
  rcases Nat.eq_zero_or_pos n with h0 | h0
  · subst h0
    rw [List.take_zero]
    have hs2' := hs2
    simp only [Int.natCast_zero, Int.mul_zero, Int.add_zero, Nat.mul_zero, Nat.add_zero] at R3 t3 t2 hs2' ⊢
    clear HX
    by_cases hck : c = k
    all_goals
      go_wp2_with (at_builtin; refine wpList_append_ints (xs := []) (ys := []) (B' := 0) (B := w.heap.size) _ rfl _ _ _ rfl elem8 (Own.nil _ _ _ _) rfl rfl Holds.nil (by simp) hs2' ?_; intro v5 w5 own5 hg5 hb5 hv5)
      go_ret2
      exact ⟨_, rfl, own5, R3.out (TurnsIn.ofGrown hg5 (S := fun b => none = some b) fun b hb => hb) (by simp) (by simp), t2.then_ (TurnsIn.ofGrown hg5 (S := fun b => none = some b) fun b hb => hb) (by simp)⟩
  · have hck : ¬ c = k := by omega
    obtain ⟨bb, off, rfl, hbl, hcs⟩ := hrow (by omega)
    have c5 : (w2.setCell ⟨g, 1, none⟩ (.int .i64 ((q : Int) + 8 * (n : Int)))).cell? ⟨g, 0, none⟩ = some (.slice (some ⟨bb, off, none⟩) bs.length c) := R3.blk.cell 0
    have hr3 : Holds (w2.setCell ⟨g, 1, none⟩ (.int .i64 ((q : Int) + 8 * (n : Int)))) w2.heap.size .u8 (some ⟨bb, off + k, none⟩) ((bs.drop k).take n) := by
      obtain ⟨A', c', hA, _, _, h'⟩ := R3.own.opened
      injection hA with hA
      subst hA
      intro _
      obtain ⟨b2, o2, hA, hb, hc⟩ := h' (by omega)
      injection hA with hA
      injection hA with e1 e2
      subst e1 e2
      refine ⟨bb, off + k, rfl, hbl, fun j hj => ?_⟩
      have hj' : j < n := by rw [HX.out] at hj; exact hj
      rw [Nat.add_assoc, hc (k + j) (by omega)]
      simp [List.getD, List.getElem?_take, hj']
    have n0 : decide ((0 : Int) ≤ (k : Int) + (n : Int)) = true := decide_eq_true (by omega)
    have n1 : (k : Int) + (n : Int) ≤ (c : Int) := by omega
    have hn5 : n ≤ 1000000 := by omega
    have hh := HX
    generalize hxs : (bs.drop k).take n = xs at *
    clear hxs hcs hrow
    obtain rfl : n = xs.length := HX.out.symm
    go_wp2_with (at_builtin; refine wpList_append_ints (xs := []) (ys := xs) (c := c - k) (B := w.heap.size) _ rfl _ _ _ rfl elem8 (Own.nil _ _ _ _) rfl (by show Value.slice (some ⟨bb, off + k, none⟩) (k + xs.length - k) (c - k) = _; rw [Nat.add_sub_cancel_left]) hr3 (by simp; omega) hs2 ?_; intro v5 w5 own5 hg5 hb5 hv5)
    go_ret2
    exact ⟨_, rfl, own5, R3.out (TurnsIn.ofGrown hg5 (S := fun b => none = some b) fun b hb => hb) (by simp) (by simp), t2.then_ (TurnsIn.ofGrown hg5 (S := fun b => none = some b) fun b hb => hb) (by simp)⟩
end Go.Proofs.YthflefdchgpbdaaDoor.Bits
