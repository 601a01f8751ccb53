/-
  Layer 25, image: Put, Keep, Kept, views: contracts. Conditions: as each theorem names.
-/
import Derived.Test.YtpnodocjpedcmaaDoorMGIays8
import Derived.Test.YtpnodocjpedcmaaDoorMGIays14
import Derived.StillTailTactics
namespace Go.Proofs.YtpnodocjpedcmaaDoor.Im
open Go.ChangeShapes Go.WideShapes Go.ChangeAt Go.RowKit Go.Proofs.YtpnodocjpedcmaaDoor.Kit Go.Proofs.YtpnodocjpedcmaaDoor.Sec Go.Proofs.YtpnodocjpedcmaaDoor.Pt

/-- A layout on a device of so many sectors: S bytes a sector, B a block, sl blocks a slot. -/
structure LayOk (S B sl : Int) (s : Dv) : Prop where
  m : Prt.mayB S B sl = true
  z : S = s.size
  c : allV S B sl ≤ s.count
/-- Where a slot begins. -/
def slotF (S B sl i : Int) : Int := if i = 0 then 2 + B / S else 2 + B / S + sl * (B / S)
theorem LayOk.facts {S B sl : Int} {s : Dv} (h : LayOk S B sl s) : (128 ≤ S ∧ S ≤ 4096) ∧ (128 ≤ B ∧ B ≤ 4096) ∧ (1 ≤ sl ∧ sl ≤ 4096) ∧ B / S * S = B ∧ 1 ≤ B / S ∧ 0 ≤ B * sl ∧ B * sl ≤ 16777216 ∧ sl * (B / S) * S = B * sl ∧ 1 ≤ sl * (B / S) := by
  obtain ⟨hS, hB, hs⟩ := Prt.may_facts h.m
  obtain ⟨q1, q2, q3, q4, q5⟩ := may_q h.m
  have hd : B / S * S = B := by
    have := h.m
    unfold Prt.mayB at this
    exact Int.ediv_mul_cancel (Int.dvd_of_emod_eq_zero (of_decide_eq_true this).2.2.1)
  have h1 : B * sl ≤ B * 4096 := Int.mul_le_mul_of_nonneg_left hs.2 (by omega)
  have h2 : 0 ≤ B * sl := Int.mul_nonneg (by omega) (by omega)
  refine ⟨hS, hB, hs, hd, q1, h2, by omega, ?_, q3⟩
  rw [Int.mul_assoc, hd, Int.mul_comm]
theorem LayOk.lies {S B sl : Int} {s : Dv} (h : LayOk S B sl s) (i : Int) : Lies s (slotF S B sl i) (sl * (B / S)) (B * sl).toNat := by
  obtain ⟨hS, hB, hs, hd, hq, h0, h1, h2, h3⟩ := h.facts
  have hc := h.c
  unfold allV at hc
  unfold slotF
  have hT : sl * (B / S) * (s.size : Int) = ((B * sl).toNat : Int) := by rw [← h.z, h2]; omega
  split
  · exact ⟨by omega, h3, by omega, hT⟩
  · exact ⟨by omega, h3, by omega, hT⟩
theorem LayOk.aside {S B sl : Int} {s : Dv} (h : LayOk S B sl s) : Lies s 2 (B / S) B.toNat := by
  obtain ⟨hS, hB, hs, hd, hq, h0, h1, h2, h3⟩ := h.facts
  have hc := h.c
  unfold allV at hc
  exact ⟨by omega, hq, by omega, by rw [← h.z, hd]; omega⟩
section
variable {w w' : World} {x a p0 p1 p2 : Nat} {S B sl : Int}
def slotP (p0 p1 : Nat) (i : Int) : Nat := if i = 0 then p0 else p1
theorem ImAt.slot (h : ImAt w x a S B sl p0 p1 p2) (i : Int) : PartAt w (slotP p0 p1 i) a (slotF S B sl i) (sl * (B / S)) := by
  unfold slotP slotF
  split
  · exact h.p0
  · exact h.p1
theorem ImAt.below (h : ImAt w x a S B sl p0 p1 p2) (hb : Below w.heap.size w w') : ImAt w' x a S B sl p0 p1 p2 :=
  ⟨h.x.below hb h.x.lt, Block.below h.p0 hb (Block.lt h.p0), Block.below h.p1 hb (Block.lt h.p1), Block.below h.p2 hb (Block.lt h.p2)⟩
theorem ImAt.turn {I : Nat → Prop} {mk mw : Nat} {s : Dv} (h : ImAt w x a S B sl p0 p1 p2) (hd : DvAt w I a mk mw s) (t : TurnsIn (DSet a mk mw) w w') : ImAt w' x a S B sl p0 p1 p2 :=
  ⟨Block.out h.x t (hd.not_cells h.x (by decide)), Block.out h.p0 t (hd.not_cells h.p0 (by decide)), Block.out h.p1 t (hd.not_cells h.p1 (by decide)), Block.out h.p2 t (hd.not_cells h.p2 (by decide))⟩
end

set_option maxHeartbeats 1600000 in
theorem slot_any (x a p0 p1 p2 : Nat) (S B sl i : Int) (w : World) (h : ImAt w x a S B sl p0 p1 p2) (hi : 0 ≤ i ∧ i ≤ 255) :
    Calls Tryd.prog 66 #[.pointer (some ⟨x, 0, none⟩), .int .u8 i] w fun e w' => e = .returned (.pointer (some ⟨slotP p0 p1 i, 0, none⟩)) ∧ w = w' := by
  have c3 : w.cell? ⟨x, 3, none⟩ = some (.pointer (some ⟨p0, 0, none⟩)) := h.x.cell 3
  have c4 : w.cell? ⟨x, 4, none⟩ = some (.pointer (some ⟨p1, 0, none⟩)) := h.x.cell 4
  clear h
  unfold slotP
  by_cases h0 : i = 0
  · rw [if_pos h0]
    have hm : min i 1 = 0 := by omega
    clear h0
    go_enter Tryd.func66, Tryd.ntmps66
    go_wp2_with fail
    go_ret
    exact ⟨rfl, rfl⟩
  · rw [if_neg h0]
    have hm : min i 1 = 1 := by omega
    clear h0
    go_enter Tryd.func66, Tryd.ntmps66
    go_wp2_with fail
    go_ret
    exact ⟨rfl, rfl⟩

set_option maxHeartbeats 1600000 in
theorem isBlock_any (x a p0 p1 p2 : Nat) (S B sl : Int) (A : Option Addr) (n c : Nat) (w : World) (h : ImAt w x a S B sl p0 p1 p2) :
    Calls Tryd.prog 69 #[.pointer (some ⟨x, 0, none⟩), .slice A n c] w fun e w' => e = .returned (.bool (decide (1 ≤ n ∧ (n : Int) ≤ B))) ∧ w = w' := by
  have c1 : w.cell? ⟨x, 1, none⟩ = some (.int .i64 B) := h.x.cell 1
  clear h
  have key : ∀ b : Bool, (1 ≤ n ∧ (n : Int) ≤ B ↔ b = true) → decide (1 ≤ n ∧ (n : Int) ≤ B) = b := by
    intro b hb
    cases b with
    | true => exact decide_eq_true (hb.2 rfl)
    | false => exact decide_eq_false (fun h => by have := hb.1 h; cases this)
  by_cases h1 : 1 ≤ n
  · by_cases h2 : (n : Int) ≤ B
    · have d1 : decide ((1 : Int) ≤ (n : Int)) = true := decide_eq_true (by omega)
      have d2 : decide ((n : Int) ≤ B) = true := decide_eq_true h2
      rw [key true (by simp [h1, h2])]
      clear key
      go_enter Tryd.func69, Tryd.ntmps69
      go_wp2_with fail
      go_ret
      exact ⟨rfl, rfl⟩
    · have d1 : decide ((1 : Int) ≤ (n : Int)) = true := decide_eq_true (by omega)
      have d2 : decide ((n : Int) ≤ B) = false := decide_eq_false h2
      rw [key false (by simp [h2])]
      clear key
      go_enter Tryd.func69, Tryd.ntmps69
      go_wp2_with fail
      go_ret
      exact ⟨rfl, rfl⟩
  · have d1 : decide ((1 : Int) ≤ (n : Int)) = false := decide_eq_false (by omega)
    rw [key false (by simp [h1])]
    clear key
    go_enter Tryd.func69, Tryd.ntmps69
    go_wp2_with fail
    go_ret
    exact ⟨rfl, rfl⟩

/-- What a part's read tells, bytes and an error in new memory. -/
def Tell (s : Dv) (F : Int) (T : Nat) (x n : Int) (w : World) (e : Ending) (w' : World) : Prop := ∃ r, PRead s F T x n r ∧ GivesB r.1 r.2 w e w'
/-- What a part's write leaves. -/
def Wrt (I : Nat → Prop) (a mk mw : Nat) (s : Dv) (F : Int) (T : Nat) (x : Int) (bs : List Int) (w : World) (e : Ending) (w' : World) : Prop :=
  ∃ r, PWrite s F T x bs r ∧ e = .returned (.int .i64 r.1) ∧ DvAt w' I a mk mw r.2 ∧ TurnsIn (DSet a mk mw) w w'

set_option maxRecDepth 100000 in
set_option maxHeartbeats 3200000 in
/-- A block is put. -/
theorem put_any (I : Nat → Prop) (x a mk mw p0 p1 p2 : Nat) (S B sl i k : Int) (A : Option Addr) (bs : List Int) (c : Nat) (s : Dv) (w : World) (h : ImAt w x a S B sl p0 p1 p2) (hd : DvAt w I a mk mw s) (hL : LayOk S B sl s) (hI : ∀ g, w.heap.size ≤ g → I g) (hi : 0 ≤ i ∧ i ≤ 255)
    (hk : -9223372036854775808 ≤ k ∧ k ≤ 9223372036854775807) (hbl : bs.length ≤ 1000000) (hbc : bs.length ≤ c) (hcm : c ≤ maxLen) (hbo : Octets bs) (hr : Holds w w.heap.size .u8 A bs) (hof : s.offs ≤ 100000000) (hwr : s.wr ≤ 100000000) :
    Calls Tryd.prog 34 #[.pointer (some ⟨x, 0, none⟩), .int .u8 i, .int .i64 k, .slice A bs.length c] w fun e w' =>
      (¬ (0 ≤ k ∧ k < sl) ∧ e = .returned (.int .i64 5) ∧ w' = w) ∨ ((0 ≤ k ∧ k < sl) ∧ ¬ (1 ≤ bs.length ∧ (bs.length : Int) ≤ B) ∧ e = .returned (.int .i64 3) ∧ w' = w) ∨
        ((0 ≤ k ∧ k < sl) ∧ (1 ≤ bs.length ∧ (bs.length : Int) ≤ B) ∧ Wrt I a mk mw s (slotF S B sl i) (B * sl).toNat (k * B) bs w e w') := by
  obtain ⟨hS, hB, hs, hdd, hq, h0, h1, h2, h3⟩ := hL.facts
  have c1 : w.cell? ⟨x, 1, none⟩ = some (.int .i64 B) := h.x.cell 1
  have c2 : w.cell? ⟨x, 2, none⟩ = some (.int .i64 sl) := h.x.cell 2
  have GI := Lib.hid (fun W (h : ImAt W x a S B sl p0 p1 p2) => isBlock_any x a p0 p1 p2 S B sl A bs.length c W h)
  have HIM := Lib.hid h
  have HD := Lib.hid hd
  have HSL : Hid (ImAt w.drew x a S B sl p0 p1 p2 → Calls Tryd.prog 66 #[.pointer (some ⟨x, 0, none⟩), .int .u8 i] w.drew fun e w' => e = .returned (.pointer (some ⟨slotP p0 p1 i, 0, none⟩)) ∧ w' = w.drew) := Lib.hid (fun h => (slot_any x a p0 p1 p2 S B sl i w.drew h hi).mono fun e w' h => ⟨h.1, h.2.symm⟩)
  have hGW : ∀ W, TurnsIn (fun _ => False) w W → ImAt W x a S B sl p0 p1 p2 → DvAt W I a mk mw s → 0 ≤ k → k < sl → Calls Tryd.prog 54 #[.pointer (some ⟨slotP p0 p1 i, 0, none⟩), .int .i64 (k * B), .slice A bs.length c] W (Wrt I a mk mw s (slotF S B sl i) (B * sl).toNat (k * B) bs W) := by
    intro W t him hdv hk0 hk1
    have hkb : 0 ≤ k * B ∧ k * B ≤ sl * B := ⟨Int.mul_nonneg hk0 (by omega), Int.mul_le_mul_of_nonneg_right (by omega) (by omega)⟩
    have hcomm : sl * B = B * sl := Int.mul_comm _ _
    exact pwrite_any I (slotP p0 p1 i) a mk mw (slotF S B sl i) (sl * (B / S)) (B * sl).toNat s (k * B) A bs c W (him.slot i) hdv (fun g hg => hI g (by have := t.size; omega)) (hL.lies i) (by omega) hbl hbc hcm hbo ((hr.out t (Nat.le_refl _) (fun _ _ h => h)).more t.size) hof hwr
  have GW := Lib.hid hGW
  have hkw : 0 ≤ k → k < sl → IntKind.i64.wrap (k * B) = k * B := by
    intro hk0 hk1
    have hkb : 0 ≤ k * B ∧ k * B ≤ sl * B := ⟨Int.mul_nonneg hk0 (by omega), Int.mul_le_mul_of_nonneg_right (by omega) (by omega)⟩
    have hcomm : sl * B = B * sl := Int.mul_comm _ _
    exact IntWalk.i64_in _ (by omega)
  clear hGW hI hr
  by_cases hin : 0 ≤ k ∧ k < sl
  case neg =>
    have hd9 : decide (k < 0) = true ∨ (decide (k < 0) = false ∧ decide (sl ≤ k) = true) := by
      simp only [decide_eq_true_eq, decide_eq_false_iff_not]
      omega
    have HN := Lib.hid hin
    clear hin h hd hkw
    rcases hd9 with e1 | ⟨e1, e2⟩
    all_goals
      go_enter Tryd.func34, Tryd.ntmps34
      go_wp2_with fail
      go_ret
      exact Or.inl ⟨HN.out, rfl, rfl⟩
  case pos =>
    have e1 : decide (k < 0) = false := decide_eq_false (by omega)
    have e2 : decide (sl ≤ k) = false := decide_eq_false (by omega)
    have hkw := hkw hin.1 hin.2
    have HN := Lib.hid hin
    clear hin h hd
    by_cases hib : 1 ≤ bs.length ∧ (bs.length : Int) ≤ B
    case neg =>
      have HB := Lib.hid hib
      have GI1 := Lib.hid (GI.out w HIM.out)
      rw [decide_eq_false hib] at GI1
      clear hib
      go_enter Tryd.func34, Tryd.ntmps34
      go_wp2_with (go_at_call 69; (with_reducible refine GI1.out.mono ?_); rintro e w' ⟨rfl, rfl⟩)
      go_ret
      exact Or.inr (Or.inl ⟨HN.out, HB.out, rfl, rfl⟩)
    case pos =>
      have HB := Lib.hid hib
      have GI1 := Lib.hid (GI.out w HIM.out)
      rw [decide_eq_true hib] at GI1
      clear hib
      go_enter Tryd.func34, Tryd.ntmps34
      go_upto_region 7 with (go_at_call 69; (with_reducible refine GI1.out.mono ?_); rintro e w' ⟨rfl, rfl⟩)
      refine wp_region_still_tail 11 (by kernel_rfl) (by kernel_rfl) ?_
      simp only [List.take_succ_cons, List.take_zero, List.drop_succ_cons, List.drop_zero]
      still_step
      still_step
      have HI1 : ImAt w.drew x a S B sl p0 p1 p2 := HIM.out.below (below_draws (Below.refl _ _) 1)
      have HD1 : DvAt w.drew I a mk mw s := HD.out.below (below_draws (Below.refl _ _) 1)
      still_call (HSL.out HI1)
      repeat still_step
      refine wpStill_nil ?_
      change wpList _ _ _ _ _ w.drew
      have GW1 := Lib.hid (GW.out w.drew (TurnsIn.drewN (TurnsIn.refl _ w) 1) HI1 HD1 HN.out.1 HN.out.2)
      go_wp2_with (go_at_call 54; (with_reducible refine GW1.out.mono ?_); rintro e w5 ⟨r5, hp5, rfl, D5, T5⟩)
      go_ret
      exact Or.inr (Or.inr ⟨HN.out, HB.out, r5, hp5, rfl, D5, (TurnsIn.drewN (TurnsIn.refl _ w) 1).trans T5⟩)

set_option maxRecDepth 100000 in
set_option maxHeartbeats 3200000 in
/-- A block is kept aside. -/
theorem keep_any (I : Nat → Prop) (x a mk mw p0 p1 p2 : Nat) (S B sl : Int) (A : Option Addr) (bs : List Int) (c : Nat) (s : Dv) (w : World) (h : ImAt w x a S B sl p0 p1 p2) (hd : DvAt w I a mk mw s) (hL : LayOk S B sl s) (hI : ∀ g, w.heap.size ≤ g → I g)
    (hbl : bs.length ≤ 1000000) (hbc : bs.length ≤ c) (hcm : c ≤ maxLen) (hbo : Octets bs) (hr : Holds w w.heap.size .u8 A bs) (hof : s.offs ≤ 100000000) (hwr : s.wr ≤ 100000000) :
    Calls Tryd.prog 35 #[.pointer (some ⟨x, 0, none⟩), .slice A bs.length c] w fun e w' =>
      (¬ (1 ≤ bs.length ∧ (bs.length : Int) ≤ B) ∧ e = .returned (.int .i64 3) ∧ w' = w) ∨ ((1 ≤ bs.length ∧ (bs.length : Int) ≤ B) ∧ Wrt I a mk mw s 2 B.toNat 0 bs w e w') := by
  have c5 : w.cell? ⟨x, 5, none⟩ = some (.pointer (some ⟨p2, 0, none⟩)) := h.x.cell 5
  have GI1 := Lib.hid (isBlock_any x a p0 p1 p2 S B sl A bs.length c w h)
  have GW := Lib.hid (pwrite_any I p2 a mk mw 2 (B / S) B.toNat s 0 A bs c w h.p2 hd hI hL.aside (by omega) hbl hbc hcm hbo hr hof hwr)
  by_cases hib : 1 ≤ bs.length ∧ (bs.length : Int) ≤ B
  case neg =>
    have HB := Lib.hid hib
    rw [decide_eq_false hib] at GI1
    clear hib h hd hr
    go_enter Tryd.func35, Tryd.ntmps35
    go_wp2_with (go_at_call 69; (with_reducible refine GI1.out.mono ?_); rintro e w' ⟨rfl, rfl⟩)
    go_ret
    exact Or.inl ⟨HB.out, rfl, rfl⟩
  case pos =>
    have HB := Lib.hid hib
    rw [decide_eq_true hib] at GI1
    clear hib h hd hr
    go_enter Tryd.func35, Tryd.ntmps35
    go_wp2_with (first
      | (go_at_call 69; (with_reducible refine GI1.out.mono ?_); rintro e w' ⟨rfl, rfl⟩)
      | (go_at_call 54; (with_reducible refine GW.out.mono ?_); rintro e w5 ⟨r5, hp5, rfl, D5, T5⟩))
    go_ret
    exact Or.inr ⟨HB.out, r5, hp5, rfl, D5, T5⟩

set_option maxRecDepth 100000 in
set_option maxHeartbeats 3200000 in
/-- What stands aside. -/
theorem kept_any (I : Nat → Prop) (x a mk mw p0 p1 p2 : Nat) (S B sl n : Int) (s : Dv) (w : World) (h : ImAt w x a S B sl p0 p1 p2) (hd : DvAt w I a mk mw s) (hL : LayOk S B sl s) :
    Calls Tryd.prog 38 #[.pointer (some ⟨x, 0, none⟩), .int .i64 n] w (Tell s 2 B.toNat 0 n w) := by
  obtain ⟨hS, hB, hs, hdd, hq, h0, h1, h2, h3⟩ := hL.facts
  have c1 : w.cell? ⟨x, 1, none⟩ = some (.int .i64 B) := h.x.cell 1
  have c5 : w.cell? ⟨x, 5, none⟩ = some (.pointer (some ⟨p2, 0, none⟩)) := h.x.cell 5
  have GR := Lib.hid (pread_any I p2 a mk mw 2 (B / S) B.toNat s 0 n w h.p2 hd hL.aside (by omega))
  by_cases hin : 0 ≤ n ∧ n ≤ B
  case neg =>
    have hd9 : decide (n < 0) = true ∨ (decide (n < 0) = false ∧ decide (B < n) = true) := by
      simp only [decide_eq_true_eq, decide_eq_false_iff_not]
      omega
    have HP : Hid (PRead s 2 B.toNat 0 n ([], 5)) := Lib.hid (by
      unfold PRead
      rw [if_neg (by omega)])
    clear hin h hd GR
    rcases hd9 with e1 | ⟨e1, e2⟩
    all_goals
      go_enter Tryd.func38, Tryd.ntmps38
      go_wp2_with fail
      go_ret2
      exact ⟨_, HP.out, _, rfl, Own.nil _ _ _ _, Below.refl _ _⟩
  case pos =>
    have e1 : decide (n < 0) = false := decide_eq_false (by omega)
    have e2 : decide (B < n) = false := decide_eq_false (by omega)
    clear hin h hd
    go_enter Tryd.func38, Tryd.ntmps38
    go_wp2_with (go_at_call 49; (with_reducible refine GR.out.mono ?_); rintro e w5 ⟨r5, hp5, v5, rfl, o5, hb5⟩)
    go_ret2
    exact ⟨r5, hp5, v5, rfl, o5, hb5⟩

/-- A view of n bytes of a part. -/
def ViewAt (w : World) (v p : Nat) (n : Int) : Prop := Block w v 135 #[.pointer (some ⟨p, 0, none⟩), .int .i64 n]
set_option maxRecDepth 100000 in
set_option maxHeartbeats 3200000 in
theorem view_any (x a p0 p1 p2 : Nat) (S B sl i n : Int) (s : Dv) (w : World) (h : ImAt w x a S B sl p0 p1 p2) (hL : LayOk S B sl s) (hi : 0 ≤ i ∧ i ≤ 255) :
    Calls Tryd.prog 36 #[.pointer (some ⟨x, 0, none⟩), .int .u8 i, .int .i64 n] w fun e w' => ∃ v, e = .returned (.pointer (some ⟨v, 0, none⟩)) ∧ w.heap.size ≤ v ∧ ViewAt w' v (slotP p0 p1 i) (min (max n 0) (B * sl)) ∧ Below w.heap.size w w' := by
  obtain ⟨hS, hB, hs, hdd, hq, h0, h1, h2, h3⟩ := hL.facts
  have GS := Lib.hid (slot_any x a p0 p1 p2 S B sl i w h hi)
  have GC := Lib.hid (cap_any x a S B sl p0 p1 p2 w h ⟨h0, h1⟩)
  obtain ⟨C, hC⟩ : ∃ C, B * sl = C := ⟨_, rfl⟩
  rw [hC] at GC ⊢
  clear h hL h0 h1 h2 hC
  go_enter Tryd.func36, Tryd.ntmps36
  go_wp2_with (first
    | (go_at_call 66; (with_reducible refine GS.out.mono ?_); rintro e w' ⟨rfl, rfl⟩)
    | (go_at_call 29; (with_reducible refine GC.out.mono ?_); rintro e w' ⟨rfl, n4, rfl⟩))
  go_ret
  have X := Block.new (w.drewN n4) 135 #[.pointer (some ⟨slotP p0 p1 i, 0, none⟩), .int .i64 (min (max n 0) C)]
  exact ⟨_, rfl, Nat.le_refl _, X, (below_draws (Below.refl _ _) n4).alloc (Nat.le_refl _) _⟩

set_option maxRecDepth 100000 in
set_option maxHeartbeats 3200000 in
theorem range_any (I : Nat → Prop) (v p a mk mw : Nat) (F C : Int) (T : Nat) (m : Int) (from_ n : Int) (s : Dv) (w : World) (h : ViewAt w v p m) (hp : PartAt w p a F C) (hd : DvAt w I a mk mw s) (hl : Lies s F C T) (hm : 0 ≤ m ∧ m ≤ T) (hf : -9223372036854775808 ≤ from_ ∧ from_ ≤ 9223372036854775807) :
    Calls Tryd.prog 37 #[.pointer (some ⟨v, 0, none⟩), .int .i64 from_, .int .i64 n] w fun e w' => (¬ (0 ≤ from_ ∧ from_ ≤ m ∧ 0 ≤ n ∧ n ≤ m - from_) ∧ GivesB [] 5 w e w') ∨ ((0 ≤ from_ ∧ from_ ≤ m ∧ 0 ≤ n ∧ n ≤ m - from_) ∧ Tell s F T from_ n w e w') := by
  have c0 : w.cell? ⟨v, 0, none⟩ = some (.pointer (some ⟨p, 0, none⟩)) := h.cell 0
  have c1 : w.cell? ⟨v, 1, none⟩ = some (.int .i64 m) := h.cell 1
  have GR := Lib.hid (pread_any I p a mk mw F C T s from_ n w hp hd hl hf)
  have hT := hl.most hd.ok
  clear h hp hd hl
  by_cases hin : 0 ≤ from_ ∧ from_ ≤ m ∧ 0 ≤ n ∧ n ≤ m - from_
  case pos =>
    have e1 : decide (from_ < 0) = false := decide_eq_false (by omega)
    have e2 : decide (m < from_) = false := decide_eq_false (by omega)
    have e3 : decide (n < 0) = false := decide_eq_false (by omega)
    have e4 : decide (m - from_ < n) = false := decide_eq_false (by omega)
    have hb1 : 0 ≤ from_ := hin.1
    have hb2 : from_ ≤ m := hin.2.1
    have HN := Lib.hid hin
    clear hin
    go_enter Tryd.func37, Tryd.ntmps37
    go_wp2_with (go_at_call 49; (with_reducible refine GR.out.mono ?_); rintro e w5 ⟨r5, hp5, v5, rfl, o5, hb5⟩)
    go_ret2
    exact Or.inr ⟨HN.out, r5, hp5, v5, rfl, o5, hb5⟩
  case neg =>
    have hd9 : decide (from_ < 0) = true ∨ (0 ≤ from_ ∧ decide (from_ < 0) = false ∧ (decide (m < from_) = true ∨ (from_ ≤ m ∧ decide (m < from_) = false ∧ (decide (n < 0) = true ∨ (decide (n < 0) = false ∧ decide (m - from_ < n) = true))))) := by
      simp only [decide_eq_true_eq, decide_eq_false_iff_not]
      omega
    have HN := Lib.hid hin
    clear hin GR
    rcases hd9 with e1 | ⟨hb1, e1, e2 | ⟨hb2, e2, e3 | ⟨e3, e4⟩⟩⟩
    all_goals
      go_enter Tryd.func37, Tryd.ntmps37
      go_wp2_with fail
      go_ret2
      exact Or.inl ⟨HN.out, _, rfl, Own.nil _ _ _ _, Below.refl _ _⟩
end Go.Proofs.YtpnodocjpedcmaaDoor.Im
