/-
  Layer 24, journal: records in memory; whether a record may be: contracts. Conditions: as each theorem names.
-/
import Derived.Test.YtpnodocjpedcmaaDoorRows
import Derived.Test.YtpnodocjpedcmaaDoorMGIays0
namespace Go.Proofs.YtpnodocjpedcmaaDoor.Jr
open Go.ChangeShapes Go.WideShapes Go.ChangeAt Go.RowKit Go.Proofs.YtpnodocjpedcmaaDoor.Kit

/-- A record. -/
structure Rec where
  seq : Int
  act : Int
  ver : Int
  len : Int
  st : Int
  md : Int
  man : List Int
  nv : Int
  nl : Int
  dn : Int
  at_ : Int
  blk : Int
  asz : Int
/-- Its cells, in their order. -/
def Rec.cells (r : Rec) : List Value :=
  .int .u64 r.seq :: .int .u8 r.act :: .int .u64 r.ver :: .int .i64 r.len :: .int .u8 r.st :: .int .u8 r.md :: (r.man.map (Value.int .u8) ++ [.int .u64 r.nv, .int .i64 r.nl, .int .i64 r.dn, .int .u64 r.at_, .int .i64 r.blk, .int .i64 r.asz])
/-- A record's numbers are within their types. -/
structure Rec.Ok (r : Rec) : Prop where
  seq : 0 ≤ r.seq ∧ r.seq < 18446744073709551616
  act : 0 ≤ r.act ∧ r.act ≤ 255
  ver : 0 ≤ r.ver ∧ r.ver < 18446744073709551616
  len : -9223372036854775808 ≤ r.len ∧ r.len ≤ 9223372036854775807
  st : 0 ≤ r.st ∧ r.st ≤ 255
  md : 0 ≤ r.md ∧ r.md ≤ 255
  man : r.man.length = 32
  mano : Octets r.man
  nv : 0 ≤ r.nv ∧ r.nv < 18446744073709551616
  nl : -9223372036854775808 ≤ r.nl ∧ r.nl ≤ 9223372036854775807
  dn : -9223372036854775808 ≤ r.dn ∧ r.dn ≤ 9223372036854775807
  at_ : 0 ≤ r.at_ ∧ r.at_ < 18446744073709551616
  blk : -9223372036854775808 ≤ r.blk ∧ r.blk ≤ 9223372036854775807
  asz : -9223372036854775808 ≤ r.asz ∧ r.asz ≤ 9223372036854775807
/-- May it be? -/
def inB (n : Int) : Bool := decide (0 ≤ n ∧ n ≤ 2147483647)
def Rec.may (r : Rec) : Bool := decide (r.act ≤ 1 ∧ r.st ≤ 3 ∧ r.md ≤ 3) && inB r.len && inB r.nl && inB r.dn && inB r.blk && inB r.asz

theorem back_cell (r : Rec) (h : r.man.length = 32) (j : Nat) : r.cells.toArray[38 + j]? = ([Value.int .u64 r.nv, .int .i64 r.nl, .int .i64 r.dn, .int .u64 r.at_, .int .i64 r.blk, .int .i64 r.asz] : List Value)[j]? := by
  rw [List.getElem?_toArray, show 38 + j = 32 + j + 1 + 1 + 1 + 1 + 1 + 1 by omega]
  unfold Rec.cells
  simp only [List.getElem?_cons_succ]
  rw [List.getElem?_append_right (by rw [List.length_map, h]; omega), List.length_map, h, show 32 + j - 32 = j by omega]

theorem in1_any (n : Int) (w : World) : Calls Tryd.prog 90 #[.int .i64 n] w fun e w' => e = .returned (.bool (inB n)) ∧ w = w' := by
  unfold inB
  by_cases h0 : 0 ≤ n
  · by_cases h1 : n ≤ 2147483647
    · rw [decide_eq_true (show 0 ≤ n ∧ n ≤ 2147483647 from ⟨h0, h1⟩)]
      have d1 : decide (n ≤ 2147483647) = true := decide_eq_true h1
      go_enter Tryd.func90, Tryd.ntmps90
      go_wp2
      go_ret
      exact ⟨rfl, rfl⟩
    · rw [decide_eq_false (show ¬ (0 ≤ n ∧ n ≤ 2147483647) from fun h => h1 h.2)]
      have d1 : decide (n ≤ 2147483647) = false := decide_eq_false h1
      go_enter Tryd.func90, Tryd.ntmps90
      go_wp2
      go_ret
      exact ⟨rfl, rfl⟩
  · rw [decide_eq_false (show ¬ (0 ≤ n ∧ n ≤ 2147483647) from fun h => h0 h.1)]
    have d1 : decide (0 ≤ n) = false := decide_eq_false h0
    go_enter Tryd.func90, Tryd.ntmps90
    go_wp2
    go_ret
    exact ⟨rfl, rfl⟩
theorem rin_any (n : Int) (w : World) : Calls Tryd.prog 55 #[.int .i64 n] w fun e w' => e = .returned (.bool (inB n)) ∧ w = w' := by
  unfold inB
  by_cases h0 : 0 ≤ n
  · by_cases h1 : n ≤ 2147483647
    · rw [decide_eq_true (show 0 ≤ n ∧ n ≤ 2147483647 from ⟨h0, h1⟩)]
      have d1 : decide (n ≤ 2147483647) = true := decide_eq_true h1
      go_enter Tryd.func55, Tryd.ntmps55
      go_wp2
      go_ret
      exact ⟨rfl, rfl⟩
    · rw [decide_eq_false (show ¬ (0 ≤ n ∧ n ≤ 2147483647) from fun h => h1 h.2)]
      have d1 : decide (n ≤ 2147483647) = false := decide_eq_false h1
      go_enter Tryd.func55, Tryd.ntmps55
      go_wp2
      go_ret
      exact ⟨rfl, rfl⟩
  · rw [decide_eq_false (show ¬ (0 ≤ n ∧ n ≤ 2147483647) from fun h => h0 h.1)]
    have d1 : decide (0 ≤ n) = false := decide_eq_false h0
    go_enter Tryd.func55, Tryd.ntmps55
    go_wp2
    go_ret
    exact ⟨rfl, rfl⟩
theorem in2_any (n : Int) (w : World) : Calls Tryd.prog 91 #[.int .i64 n] w fun e w' => e = .returned (.bool (decide (n ≤ 3))) ∧ w = w' := by
  obtain ⟨b, hb⟩ : ∃ b : Bool, decide (n ≤ 3) = b := ⟨_, rfl⟩
  rw [hb]
  go_enter Tryd.func91, Tryd.ntmps91
  go_wp2
  go_ret
  exact ⟨rfl, rfl⟩

theorem take_all (p : Int → Bool) (xs : List Int) (j : Nat) (h : j < xs.length) : (xs.take (j + 1)).all p = ((xs.take j).all p && p (xs.getD j 0)) := by
  rw [List.take_succ_eq_append_getElem h, List.all_append]
  simp [List.getD, List.getElem?_eq_getElem h]

set_option maxHeartbeats 1600000 in
theorem all1_any (p : Int → Bool) (hp : ∀ x W, Calls Tryd.prog 90 #[.int .i64 x] W fun e w' => e = .returned (.bool (p x)) ∧ W = w') (A : Option Addr) (xs : List Int) (c : Nat) (w : World) (hl : xs.length ≤ 100) (hr : Holds w w.heap.size .i64 A xs) :
    Calls Tryd.prog 89 #[.func (.func 90) #[] #[], .slice A xs.length c] w fun e w' => e = .returned (.bool (xs.all p)) ∧ w = w' := by
  have HP := Lib.hid hp
  have HA := Lib.hid (fun j (h : j < xs.length) => take_all p xs j h)
  have HE : Hid (xs.take xs.length = xs) := Lib.hid List.take_length
  clear hp
  go_enter Tryd.func89, Tryd.ntmps89
  go_wp2
  go_loop [9] (fun i => ∃ j : Nat, j ≤ xs.length ∧ i = .int .i64 j ∧ (xs.take j).all p = true) (fun i => xs.length - (intOf i).toNat)
  case atStart => exact ⟨0, Nat.zero_le _, rfl, rfl⟩
  case round =>
    obtain ⟨j, hj, rfl, ha⟩ := hrel
    have Ha := Lib.hid ha
    clear ha
    by_cases hlt : j < xs.length
    · obtain ⟨b, off, rfl, hb, hc⟩ := hr (by omega)
      have hcj := hc j hlt
      have GF := Lib.hid (HP.out (xs.getD j 0))
      have hstep := Lib.hid (HA.out j hlt)
      have hsub : p (xs.getD j 0) = false → xs.all p = false := fun h => by
        rw [List.all_eq_false]
        exact ⟨xs[j], List.getElem_mem hlt, by simpa [List.getD, List.getElem?_eq_getElem hlt] using h⟩
      have d1 : decide ((j : Int) < (xs.length : Int)) = true := decide_eq_true (by omega)
      have d2 : decide (j < xs.length) = true := decide_eq_true hlt
      generalize xs.getD j 0 = z at *
      obtain ⟨t, ht⟩ : ∃ t : Bool, p z = t := ⟨_, rfl⟩
      rw [ht] at GF
      cases t with
      | true =>
        have Ht := Lib.hid ht
        clear ht hsub hc
        go_wp2_with (go_at_call 90; refine (GF.out _).mono ?_; rintro e w1 ⟨rfl, rfl⟩)
        go_round
        case rel => exact ⟨j + 1, hlt, by go_num, by rw [hstep.out, Ha.out, Ht.out]; rfl⟩
        case measure => simp [intOf] <;> omega
      | false =>
        have hf := Lib.hid (hsub ht)
        clear ht hsub hc
        go_wp2_with (go_at_call 90; refine (GF.out _).mono ?_; rintro e w1 ⟨rfl, rfl⟩)
        go_ret
        exact ⟨by rw [hf.out]; rfl, rfl⟩
    · obtain rfl : j = xs.length := by omega
      have d1 : decide ((xs.length : Int) < (xs.length : Int)) = false := decide_eq_false (by omega)
      have d2 : decide (xs.length < xs.length) = false := decide_eq_false (by omega)
      rw [HE.out] at Ha
      go_wp2
      go_ret
      exact ⟨by rw [Ha.out]; rfl, rfl⟩

set_option maxHeartbeats 1600000 in
theorem all2_any (p : Int → Bool) (hp : ∀ x W, Calls Tryd.prog 91 #[.int .i64 x] W fun e w' => e = .returned (.bool (p x)) ∧ W = w') (A : Option Addr) (xs : List Int) (c : Nat) (w : World) (hl : xs.length ≤ 100) (hr : Holds w w.heap.size .i64 A xs) :
    Calls Tryd.prog 89 #[.func (.func 91) #[] #[], .slice A xs.length c] w fun e w' => e = .returned (.bool (xs.all p)) ∧ w = w' := by
  have HP := Lib.hid hp
  have HA := Lib.hid (fun j (h : j < xs.length) => take_all p xs j h)
  have HE : Hid (xs.take xs.length = xs) := Lib.hid List.take_length
  clear hp
  go_enter Tryd.func89, Tryd.ntmps89
  go_wp2
  go_loop [9] (fun i => ∃ j : Nat, j ≤ xs.length ∧ i = .int .i64 j ∧ (xs.take j).all p = true) (fun i => xs.length - (intOf i).toNat)
  case atStart => exact ⟨0, Nat.zero_le _, rfl, rfl⟩
  case round =>
    obtain ⟨j, hj, rfl, ha⟩ := hrel
    have Ha := Lib.hid ha
    clear ha
    by_cases hlt : j < xs.length
    · obtain ⟨b, off, rfl, hb, hc⟩ := hr (by omega)
      have hcj := hc j hlt
      have GF := Lib.hid (HP.out (xs.getD j 0))
      have hstep := Lib.hid (HA.out j hlt)
      have hsub : p (xs.getD j 0) = false → xs.all p = false := fun h => by
        rw [List.all_eq_false]
        exact ⟨xs[j], List.getElem_mem hlt, by simpa [List.getD, List.getElem?_eq_getElem hlt] using h⟩
      have d1 : decide ((j : Int) < (xs.length : Int)) = true := decide_eq_true (by omega)
      have d2 : decide (j < xs.length) = true := decide_eq_true hlt
      generalize xs.getD j 0 = z at *
      obtain ⟨t, ht⟩ : ∃ t : Bool, p z = t := ⟨_, rfl⟩
      rw [ht] at GF
      cases t with
      | true =>
        have Ht := Lib.hid ht
        clear ht hsub hc
        go_wp2_with (go_at_call 91; refine (GF.out _).mono ?_; rintro e w1 ⟨rfl, rfl⟩)
        go_round
        case rel => exact ⟨j + 1, hlt, by go_num, by rw [hstep.out, Ha.out, Ht.out]; rfl⟩
        case measure => simp [intOf] <;> omega
      | false =>
        have hf := Lib.hid (hsub ht)
        clear ht hsub hc
        go_wp2_with (go_at_call 91; refine (GF.out _).mono ?_; rintro e w1 ⟨rfl, rfl⟩)
        go_ret
        exact ⟨by rw [hf.out]; rfl, rfl⟩
    · obtain rfl : j = xs.length := by omega
      have d1 : decide ((xs.length : Int) < (xs.length : Int)) = false := decide_eq_false (by omega)
      have d2 : decide (xs.length < xs.length) = false := decide_eq_false (by omega)
      rw [HE.out] at Ha
      go_wp2
      go_ret
      exact ⟨by rw [Ha.out]; rfl, rfl⟩
end Go.Proofs.YtpnodocjpedcmaaDoor.Jr
