/-
  Layer 3, ots: the kinds' numbers: contracts. Conditions: as each theorem names.
  Layer 3, ots: sizes, steps of a chain, digits of a text: plain maths, and small contracts. Conditions: as each theorem names.
  Layer 3, ots: the digits of a text under a salt: contract. Conditions: as each theorem names.
  Layer 3, ots: the document's sum of ends, and its digits: contracts. Conditions: as each theorem names.
-/
import Derived.Test.YtdfgdchmeikigaaDoorRows
import Derived.Test.YtdfgdchmeikigaaDoorMem
import Derived.Test.YtdfgdchmeikigaaDoorOA
import Derived.Test.YtdfgdchmeikigaaDoorChk
import Derived.Test.YtdfgdchmeikigaaDoorStC
namespace Go.Proofs.YtdfgdchmeikigaaDoor.Ot
open Go.ChangeShapes Go.WideShapes Go.ChangeAt Go.RowKit Go.Proofs.YtdfgdchmeikigaaDoor.Kit

/-- Bits of a digit; chains. -/
def wideN (k : Int) : Int := if k = 1 then 1 else if k = 2 then 2 else if k = 3 then 4 else if k = 4 then 8 else 0
def chainsN (k : Int) : Int := if k = 1 then 265 else if k = 2 then 133 else if k = 3 then 67 else if k = 4 then 34 else 0

theorem kinds (k : Int) : k = 1 ∨ k = 2 ∨ k = 3 ∨ k = 4 ∨ ((k == 1) = false ∧ (k == 2) = false ∧ (k == 3) = false ∧ (k == 4) = false ∧ wideN k = 0 ∧ chainsN k = 0) := by
  by_cases h1 : k = 1
  · exact .inl h1
  by_cases h2 : k = 2
  · exact .inr (.inl h2)
  by_cases h3 : k = 3
  · exact .inr (.inr (.inl h3))
  by_cases h4 : k = 4
  · exact .inr (.inr (.inr (.inl h4)))
  exact .inr (.inr (.inr (.inr ⟨beq_eq_false_iff_ne.2 h1, beq_eq_false_iff_ne.2 h2, beq_eq_false_iff_ne.2 h3, beq_eq_false_iff_ne.2 h4, by simp [wideN, h1, h2, h3, h4], by simp [chainsN, h1, h2, h3, h4]⟩)))

theorem width_any (k : Int) (w : World) : Calls Tryd.prog 14 #[.int .u32 k] w fun e w' => e = .returned (.int .i64 (wideN k)) ∧ w = w' := by
  rcases kinds k with rfl | rfl | rfl | rfl | ⟨h1, h2, h3, h4, hw, _⟩
  all_goals
    (first | (rw [hw]; clear hw) | skip)
    go_enter Tryd.func14, Tryd.ntmps14
    go_wp2
    go_ret
    exact ⟨rfl, rfl⟩

theorem rwide_any (k : Int) (w : World) : Calls Tryd.prog 15 #[.int .u32 k] w fun e w' => e = .returned (.int .i64 (wideN k)) ∧ w = w' := by
  rcases kinds k with rfl | rfl | rfl | rfl | ⟨h1, h2, h3, h4, hw, _⟩
  all_goals
    (first | (rw [hw]; clear hw) | skip)
    go_enter Tryd.func15, Tryd.ntmps15
    go_wp2
    go_ret
    exact ⟨rfl, rfl⟩

theorem chains_any (k : Int) (w : World) : Calls Tryd.prog 16 #[.int .u32 k] w fun e w' => e = .returned (.int .i64 (chainsN k)) ∧ w = w' := by
  rcases kinds k with rfl | rfl | rfl | rfl | ⟨h1, h2, h3, h4, _, hw⟩
  all_goals
    (first | (rw [hw]; clear hw) | skip)
    go_enter Tryd.func16, Tryd.ntmps16
    go_wp2
    go_ret
    exact ⟨rfl, rfl⟩
end Go.Proofs.YtdfgdchmeikigaaDoor.Ot

namespace Go.Proofs.YtdfgdchmeikigaaDoor.Ot
open Go.ChangeShapes Go.WideShapes Go.ChangeAt Go.RowKit Go.Proofs.YtdfgdchmeikigaaDoor.Kit Go.Proofs.YtdfgdchmeikigaaDoor.Sha Go.Proofs.YtdfgdchmeikigaaDoor.Mk Go.Proofs.YtdfgdchmeikigaaDoor.Oct

/-- A kind that there is. -/
def KindIn (k : Int) : Prop := k = 1 ∨ k = 2 ∨ k = 3 ∨ k = 4
/-- Steps of a whole chain; how many chains; how many bytes a signature has. -/
def lastN (k : Int) : Nat := if k = 1 then 1 else if k = 2 then 3 else if k = 3 then 15 else if k = 4 then 255 else 0
def manyN (k : Int) : Nat := if k = 1 then 265 else if k = 2 then 133 else if k = 3 then 67 else if k = 4 then 34 else 0
def sizeN (k : Int) : Int := if manyN k = 0 then 0 else 36 + 32 * (manyN k : Int)
theorem chains_many (k : Int) : chainsN k = (manyN k : Int) := by
  unfold chainsN manyN
  repeat (first | rfl | split)
theorem lastN_bd (k : Int) : lastN k ≤ 255 := by
  unfold lastN
  repeat (first | omega | split)
theorem manyN_bd (k : Int) : manyN k ≤ 265 := by
  unfold manyN
  repeat (first | omega | split)
theorem kind_none {k : Int} (h : ¬ KindIn k) : wideN k = 0 ∧ manyN k = 0 ∧ (k == 1) = false ∧ (k == 2) = false ∧ (k == 3) = false ∧ (k == 4) = false := by
  unfold KindIn at h
  simp only [not_or] at h
  obtain ⟨h1, h2, h3, h4⟩ := h
  exact ⟨by simp [wideN, h1, h2, h3, h4], by simp [manyN, h1, h2, h3, h4], beq_eq_false_iff_ne.2 h1, beq_eq_false_iff_ne.2 h2, beq_eq_false_iff_ne.2 h3, beq_eq_false_iff_ne.2 h4⟩
theorem kind_wide {k : Int} (h : KindIn k) : (wideN k = 1 ∨ wideN k = 2 ∨ wideN k = 4 ∨ wideN k = 8) ∧ 1 ≤ manyN k ∧ (2 : Int) ^ (wideN k).toNat = (lastN k : Int) + 1 ∧ manyN k ≤ 34 * (8 / (wideN k).toNat) := by
  rcases h with rfl | rfl | rfl | rfl <;> decide

theorem chk_bd (xs : List Int) (w : Int) : 0 ≤ chk xs w ∧ chk xs w ≤ 65535 := by
  unfold chk
  repeat' split
  all_goals omega

/-- The digits of a text under a salt. -/
def dgsL (nm : List Int) (k : Int) (salt text : List Int) : List Int :=
  (digs (sumL (nm ++ ([129, 129] ++ salt ++ text)) ++ be 2 (chk (sumL (nm ++ ([129, 129] ++ salt ++ text))) (wideN k))) (wideN k)).take (manyN k)

theorem allL_length (s : List Int) (x : Int) (hs : s.length = 32) : (s ++ be 2 x).length = 34 := by rw [List.length_append, be_length, hs]
theorem digs_len34 {k : Int} (hk : KindIn k) (z : List Int) (hz : z.length = 34) : manyN k ≤ (digs z (wideN k)).length := by
  obtain ⟨h1, h2, h3, h4⟩ := kind_wide hk
  unfold digs
  rw [if_pos h1, dgs_length, hz]
  exact h4
theorem dgsL_length {k : Int} (hk : KindIn k) (nm salt text : List Int) : (dgsL nm k salt text).length = manyN k := by
  unfold dgsL
  rw [List.length_take]
  have := digs_len34 hk _ (allL_length _ (chk (sumL (nm ++ ([129, 129] ++ salt ++ text))) (wideN k)) (sumL_length (nm ++ ([129, 129] ++ salt ++ text))))
  omega
theorem digs_bd {k : Int} (hk : KindIn k) (z : List Int) : ∀ x ∈ digs z (wideN k), 0 ≤ x ∧ x ≤ (lastN k : Int) := by
  obtain ⟨h1, h2, h3, h4⟩ := kind_wide hk
  intro x hx
  unfold digs at hx
  rw [if_pos h1] at hx
  obtain ⟨i, _, rfl⟩ := List.mem_map.1 hx
  have hp : (0 : Int) < (2 : Int) ^ (wideN k).toNat := by rw [h3]; omega
  unfold dg
  exact ⟨Int.emod_nonneg _ (by omega), by have := Int.emod_lt_of_pos (z[i / (8 / (wideN k).toNat)]?.getD 0 / (2 : Int) ^ ((wideN k).toNat * (8 / (wideN k).toNat - 1 - i % (8 / (wideN k).toNat)))) hp; omega⟩
theorem dgsL_bd {k : Int} (hk : KindIn k) (nm salt text : List Int) : ∀ x ∈ dgsL nm k salt text, 0 ≤ x ∧ x ≤ (lastN k : Int) := fun x hx => digs_bd hk _ x (List.mem_of_mem_take hx)

theorem size_any (k : Int) (w : World) : Calls Tryd.prog 17 #[.int .u32 k] w fun e w' => e = .returned (.int .i64 (sizeN k)) ∧ w = w' := by
  have GC := Lib.hid (fun W => chains_any k W)
  by_cases hk : KindIn k
  · rcases hk with rfl | rfl | rfl | rfl
    all_goals
      simp [chainsN] at GC
      go_enter Tryd.func17, Tryd.ntmps17
      go_wp2_with (go_at_call 16; refine (GC.out _).mono ?_; rintro e w' ⟨rfl, rfl⟩)
      go_ret
      exact ⟨rfl, rfl⟩
  · obtain ⟨h1, h2, _⟩ := kind_none hk
    have hc : chainsN k = 0 := by rw [chains_many, h2]; rfl
    have hz : sizeN k = 0 := by unfold sizeN; rw [if_pos h2]
    rw [hc] at GC
    rw [hz]
    clear hc hz h1 h2
    go_enter Tryd.func17, Tryd.ntmps17
    go_wp2_with (go_at_call 16; refine (GC.out _).mono ?_; rintro e w' ⟨rfl, rfl⟩)
    go_ret
    exact ⟨rfl, rfl⟩

theorem last_any (k : Int) (hk : KindIn k) (w : World) : Calls Tryd.prog 52 #[.int .u32 k] w fun e w' => e = .returned (.int .i64 (lastN k)) ∧ w = w' := by
  have GC := Lib.hid (fun W => width_any k W)
  rcases hk with rfl | rfl | rfl | rfl
  all_goals
    simp [wideN] at GC
    go_enter Tryd.func52, Tryd.ntmps52
    go_wp2_with (go_at_call 14; refine (GC.out _).mono ?_; rintro e w' ⟨rfl, rfl⟩)
    go_ret
    exact ⟨rfl, rfl⟩

theorem rchains_any (k : Int) (hk : 0 ≤ k ∧ k < 4294967296) (w : World) : Calls Tryd.prog 13 #[.int .u32 k] w (Gives (.int .i64 (manyN k)) w) := by
  by_cases h4 : k ≤ 4
  · have hcs : k = 0 ∨ k = 1 ∨ k = 2 ∨ k = 3 ∨ k = 4 := by omega
    rcases hcs with rfl | rfl | rfl | rfl | rfl
    all_goals
      go_enter Tryd.func13, Tryd.ntmps13
      go_wp2
      go_ret
      exact ⟨rfl, (Below.refl _ _).alloc (Nat.le_refl _) _⟩
  · have hz : manyN k = 0 := (kind_none (by unfold KindIn; omega)).2.1
    have d1 : decide (4 < k) = true := decide_eq_true (by omega)
    rw [hz]
    go_enter Tryd.func13, Tryd.ntmps13
    go_wp2
    go_ret
    exact ⟨rfl, (Below.refl _ _).alloc (Nat.le_refl _) _⟩
theorem pow_bd : ∀ i, i ≤ 8 → 1 ≤ (2 : Int) ^ i ∧ (2 : Int) ^ i ≤ 256 := by decide
theorem steps_any (k : Int) (hk : KindIn k) (w : World) : Calls Tryd.prog 55 #[.int .u32 k] w fun e w' => e = .returned (.int .i64 (lastN k)) ∧ w = w' := by
  have GC := Lib.hid (fun W => rwide_any k W)
  obtain ⟨h1, _, h3, _⟩ := kind_wide hk
  obtain ⟨n, hn, hn8⟩ : ∃ n : Nat, wideN k = (n : Int) ∧ n ≤ 8 := ⟨(wideN k).toNat, by omega, by omega⟩
  have hl : (lastN k : Int) = (2 : Int) ^ n - 1 := by rw [hn] at h3; simp at h3; omega
  rw [hl]
  rw [hn] at GC
  clear h1 h3 hn hl
  go_enter Tryd.func55, Tryd.ntmps55
  go_wp2
  go_loop [3, 4] (fun s i => ∃ j : Nat, j ≤ n ∧ i = .int .i64 j ∧ s = .int .i64 ((2 : Int) ^ j)) (fun _ i => n - (intOf i).toNat)
  case atStart => exact ⟨0, Nat.zero_le _, rfl, rfl⟩
  case round =>
    obtain ⟨j, hj, rfl, rfl⟩ := hrel
    have hp := pow_bd j (by omega)
    have hq := Int.pow_succ (2 : Int) j
    by_cases hlt : j < n
    · generalize (2 : Int) ^ j = p at *
      have HQ := Lib.hid hq
      clear hq
      have d1 : decide (j < n) = true := decide_eq_true hlt
      have d2 : decide ((j : Int) < (n : Int)) = true := decide_eq_true (by omega)
      go_wp2_with (go_at_call 15; refine (GC.out _).mono ?_; rintro e w' ⟨rfl, rfl⟩)
      go_round
      case rel => exact ⟨j + 1, by omega, by go_num, by rw [HQ.out, Int.mul_comm]⟩
      case measure => simp [intOf] <;> omega
    · obtain rfl : j = n := by omega
      clear hq
      generalize hpj : (2 : Int) ^ j = p at *
      have HP := Lib.hid hpj
      clear hpj
      have d1 : decide (j < j) = false := decide_eq_false hlt
      have d2 : decide ((j : Int) < (j : Int)) = false := decide_eq_false (by omega)
      go_wp2_with (go_at_call 15; refine (GC.out _).mono ?_; rintro e w' ⟨rfl, rfl⟩)
      go_ret
      exact ⟨by rw [HP.out]; rfl, rfl⟩
end Go.Proofs.YtdfgdchmeikigaaDoor.Ot

namespace Go.Proofs.YtdfgdchmeikigaaDoor.Ot
open Go.ChangeShapes Go.WideShapes Go.ChangeAt Go.RowKit Go.Proofs.YtdfgdchmeikigaaDoor.Kit Go.Proofs.YtdfgdchmeikigaaDoor.Sha Go.Proofs.YtdfgdchmeikigaaDoor.Mk Go.Proofs.YtdfgdchmeikigaaDoor.Oct

/-- A list of ints in new memory. -/
def ReadsN (w : World) (zs : List Int) (e : Ending) (w' : World) : Prop :=
  ∃ (A : Option Addr) (c : Nat), e = .returned (.slice A zs.length c) ∧ zs.length ≤ c ∧ c ≤ maxLen ∧ Holds w' w'.heap.size .i64 A zs ∧ (∀ a, A = some a → w.heap.size ≤ a.block) ∧ Below w.heap.size w w'
def OwnsI (w : World) (zs : List Int) (e : Ending) (w' : World) : Prop := ∃ v, e = .returned v ∧ Own w' w.heap.size 3 .i64 v zs ∧ Below w.heap.size w w'
theorem digits_own (A : Option Addr) (xs : List Int) (c : Nat) (w : Int) (hw : w = 1 ∨ w = 2 ∨ w = 4 ∨ w = 8) (W : World) (hn : xs.length ≤ 1000000) (ho : Octets xs) (hr : Holds W W.heap.size .u8 A xs) :
    Calls Tryd.prog 86 #[.slice A xs.length c, .int .i64 w] W (OwnsI W (digs xs w)) := by
  rcases hw with rfl | rfl | rfl | rfl
  · exact digits_any A xs c 1 W hn (by decide) ho hr
  · exact digits_any A xs c 2 W hn (by decide) ho hr
  · exact digits_any A xs c 4 W hn (by decide) ho hr
  · exact digits_any A xs c 8 W hn (by decide) ho hr
theorem rdigits_own (A : Option Addr) (xs : List Int) (c : Nat) (w : Int) (hw : w = 1 ∨ w = 2 ∨ w = 4 ∨ w = 8) (W : World) (hn : xs.length ≤ 1000000) (ho : Octets xs) (hr : Holds W W.heap.size .u8 A xs) :
    Calls Tryd.prog 89 #[.slice A xs.length c, .int .i64 w] W (OwnsI W (digs xs w)) := by
  rcases hw with rfl | rfl | rfl | rfl
  · exact (rdigits_1 A xs c W hn ho hr).mono fun e w' ⟨v, he, own, hb⟩ => ⟨v, he, (by rw [← dgs_all 1 (by decide)] at own; exact own), hb⟩
  · exact (rdigits_2 A xs c W hn ho hr).mono fun e w' ⟨v, he, own, hb⟩ => ⟨v, he, (by rw [← dgs_all 2 (by decide)] at own; exact own), hb⟩
  · exact (rdigits_4 A xs c W hn ho hr).mono fun e w' ⟨v, he, own, hb⟩ => ⟨v, he, (by rw [← dgs_all 4 (by decide)] at own; exact own), hb⟩
  · exact (rdigits_8 A xs c W hn ho hr).mono fun e w' ⟨v, he, own, hb⟩ => ⟨v, he, (by rw [← dgs_all 8 (by decide)] at own; exact own), hb⟩

set_option maxRecDepth 100000 in
set_option maxHeartbeats 6400000 in
theorem ndigits_any (nm : List Int) (hnl : nm.length = 20) (hno : Octets nm) (k : Int) (hk : KindIn k) (A1 : Option Addr) (salt : List Int) (c1 : Nat) (A2 : Option Addr) (text : List Int) (c2 : Nat) (w : World)
    (k1 : RwOk w w.heap.size ⟨A1, c1, salt⟩) (k2 : RwOk w w.heap.size ⟨A2, c2, text⟩) (l1 : salt.length ≤ 100000) (l2 : text.length ≤ 100000) (hL : LaidS w) :
    Calls Tryd.prog 60 #[.agg (nm.map (Value.int .u8)).toArray, .int .u32 k, .slice A1 salt.length c1, .slice A2 text.length c2] w (ReadsN w (dgsL nm k salt text)) := by
  have HK := Lib.hid (dgsL_length hk nm salt text)
  obtain ⟨hkw, _, _, _⟩ := kind_wide hk
  have hl34 := digs_len34 hk _ (allL_length _ (chk (sumL (nm ++ ([129, 129] ++ salt ++ text))) (wideN k)) (sumL_length (nm ++ ([129, 129] ++ salt ++ text))))
  have hzl := digs_len (sumL (nm ++ ([129, 129] ++ salt ++ text)) ++ be 2 (chk (sumL (nm ++ ([129, 129] ++ salt ++ text))) (wideN k))) (wideN k) (by rw [allL_length _ _ (sumL_length _)]; decide)
  have hdg : dgsL nm k salt text = (digs (sumL (nm ++ ([129, 129] ++ salt ++ text)) ++ be 2 (chk (sumL (nm ++ ([129, 129] ++ salt ++ text))) (wideN k))) (wideN k)).take (manyN k) := rfl
  have HZ := Lib.hid hdg
  generalize dgsL nm k salt text = out at *
  clear hdg
  have hsd := sumL_d32 (nm ++ ([129, 129] ++ salt ++ text))
  have hsl := Lib.hid hsd.1
  have hck := chk_bd (sumL (nm ++ ([129, 129] ++ salt ++ text))) (wideN k)
  have h129 : Octets [129, 129] := by intro x hx; simp at hx; omega
  have W0 : ∀ o, Below w.heap.size w (w.alloc o) := below_last w
  have N0 : ∀ o, Arr ((w.alloc (.cells (nm.map (Value.int .u8)).toArray 78)).alloc o) w.heap.size 78 .u8 nm := fun o => (Arr.new w _ _ nm).alloc o
  have M0 : Arr ((w.alloc (.cells (nm.map (Value.int .u8)).toArray 78)).alloc (.cells #[.int .u8 129, .int .u8 129] 5)) (w.alloc (.cells (nm.map (Value.int .u8)).toArray 78)).heap.size 5 .u8 [129, 129] := Arr.new (w.alloc (.cells (nm.map (Value.int .u8)).toArray 78)) 5 .u8 [129, 129]
  rw [show (w.alloc (.cells (nm.map (Value.int .u8)).toArray 78)).heap.size = w.heap.size + 1 by simp] at M0
  have B0 := (W0 (.cells (nm.map (Value.int .u8)).toArray 78)).trans ((below_last (w.alloc (.cells (nm.map (Value.int .u8)).toArray 78)) (.cells #[.int .u8 129, .int .u8 129] 5)).mono (by simp))
  have N1 := N0 (.cells #[.int .u8 129, .int .u8 129] 5)
  have K0 := RwOk.arr M0 h129 (by decide)
  have GS := sum3_any nm hnl hno _ A1 A2 _ c1 c2 2 salt.length text.length [129, 129] salt text _ rfl rfl rfl K0 ((k1.below B0).more B0.size) ((k2.below B0).more B0.size) (by decide) l1 l2 (hL.below B0)
  have B1 := B0.trans ((below_last ((w.alloc (.cells (nm.map (Value.int .u8)).toArray 78)).alloc (.cells #[.int .u8 129, .int .u8 129] 5)) (.cells #[.slice (some ⟨w.heap.size + 1, 0, none⟩) 2 2, .slice A1 salt.length c1, .slice A2 text.length c2] 35)).mono (by simp; omega))
  have N2 := N1.alloc (.cells #[.slice (some ⟨w.heap.size + 1, 0, none⟩) 2 2, .slice A1 salt.length c1, .slice A2 text.length c2] 35)
  have HN := Lib.hid hnl
  generalize sumL (nm ++ ([129, 129] ++ salt ++ text)) = ys at *
  have GC := Lib.hid (fun W b (h : Arr W b 26 .u8 ys) => check_as (some ⟨b, 0, none⟩) ys 32 (wideN k) W (by rw [hsl.out]; decide) hsd.2 h.holds_all)
  have hbo := be_octets 2 (chk ys (wideN k))
  have hao : Octets (ys ++ be 2 (chk ys (wideN k))) := by
    intro x hx
    rcases List.mem_append.1 hx with hx | hx
    · exact hsd.2 x hx
    · exact hbo x hx
  have hal := allL_length ys (chk ys (wideN k)) hsl.out
  have GP : Hid (∀ W b, Arr W b 26 .u8 ys → Calls Tryd.prog 59 #[.slice (some ⟨b, 0, none⟩) ys.length 32, .int .i64 2, .int .u64 (chk ys (wideN k))] W (Rowed (ys ++ be 2 (chk ys (wideN k))) W)) := Lib.hid (fun W b h => put_any (some ⟨b, 0, none⟩) ys 32 0 2 _ W (by rw [hsl.out]; decide) h.holds_all ⟨hck.1, by omega⟩)
  generalize chk ys (wideN k) = ck at *
  generalize ys ++ be 2 ck = all at *
  have GD := Lib.hid (fun W A c (h : Holds W W.heap.size .u8 A all) => digits_own A all c (wideN k) hkw W (by rw [hal]; decide) hao h)
  have GH := Lib.hid (fun W => chains_any k W)
  have GW := Lib.hid (fun W => width_any k W)
  rw [chains_many] at GH
  generalize digs all (wideN k) = ds at *
  generalize wideN k = wd at *
  generalize manyN k = m at *
  rw [hsl.out] at GC GP
  have HM := Lib.hid hal
  clear hkw hal hsd hnl hk W0 N0 N1 B0 M0 K0 k1 k2
  go_enter Tryd.func60, Tryd.ntmps60
  go_wp2_with (have _t := N2; refine wpList_load_arr rfl _ _ rfl (Arr.new w _ _ nm) rfl arr20 rfl (by rw [HN.out]; kernel_rfl) ?_)
  rw [show ((w.alloc (.cells (nm.map (Value.int .u8)).toArray 78)).alloc (.cells #[.int .u8 129, .int .u8 129] 5)).heap.size = w.heap.size + 1 + 1 by simp] at GS
  refine GS.mono ?_
  rintro e w2 ⟨rfl, hb2⟩
  have B2 := B1.trans (hb2.mono B1.size)
  have z2 := res_new w2 26
  clear GS hb2 B1 N2
  go_wp2_with (first
    | (have _t := z2; refine wpList_store_arr rfl _ _ _ rfl (ys := ys) z2 rfl rfl (by rw [hsl.out]; rfl) (by rw [hsl.out]; kernel_rfl) ?_; intro w3 D3 g3; have B3 := below_fill B2 B2.size g3; clear _t z2 B2 g3)
    | (have _t := D3; go_at_call 14; refine (GW.out _).mono ?_; rintro e w4 ⟨rfl, rfl⟩))
  generalize w2.heap.size = b0 at *
  have B3 := below_draws B3 1
  have D3 := D3.drewN 1
  refine wp_region_held_drew (S := (fun _ => True)) (by kernel_rfl) trivial (fun hS => ?_)
  refine wpAnyH_take (i := 0) (v := .slice (some ⟨b0, 0, none⟩) 32 32) rfl (by kernel_rfl) (by kernel_rfl) (by kernel_rfl) (fun _ _ _ h => h) (Or.inl ⟨by rfl, fun W hW => by go_simp⟩) hS ?_
  try simp only [Act.put, List.setIfInBounds_toArray, List.set_cons_zero, List.set_cons_succ]
  refine wpAnyH_take (i := 1) (v := .slice (some ⟨b0, 0, none⟩) 32 32) rfl (by kernel_rfl) (by kernel_rfl) (by kernel_rfl) (fun _ _ _ h => h) (Or.inl ⟨by rfl, fun W hW => by go_simp⟩) hS ?_
  try simp only [Act.put, List.setIfInBounds_toArray, List.set_cons_zero, List.set_cons_succ]
  refine wpAnyH_take (i := 2) (v := .int .i64 wd) rfl (by kernel_rfl) (by kernel_rfl) (by kernel_rfl) (fun _ _ _ h => h) (Or.inl ⟨by rfl, fun W hW => by go_simp⟩) hS ?_
  try simp only [Act.put, List.setIfInBounds_toArray, List.set_cons_zero, List.set_cons_succ]
  refine wpAnyH_take (i := 6) (v := .int .i64 wd) rfl (by kernel_rfl) (by kernel_rfl) (by kernel_rfl) (fun _ _ _ h => h) (Or.inl ⟨by rfl, fun W hW => by go_simp⟩) hS ?_
  try simp only [Act.put, List.setIfInBounds_toArray, List.set_cons_zero, List.set_cons_succ]
  refine wpAnyH_take (i := 8) (v := .int .u32 k) rfl (by kernel_rfl) (by kernel_rfl) (by kernel_rfl) (fun _ _ _ h => h) (Or.inl ⟨by rfl, fun W hW => by go_simp⟩) hS ?_
  try simp only [Act.put, List.setIfInBounds_toArray, List.set_cons_zero, List.set_cons_succ]
  obtain ⟨x0, e0⟩ : ∃ x0, x0 = w3.drew := ⟨_, rfl⟩
  have Dx0 : Arr x0 b0 26 .u8 ys := by rw [e0]; exact D3
  have Bx0 : Below w.heap.size w x0 := by rw [e0]; exact B3
  rw [← e0]
  clear B3 D3 e0
  refine wpAnyH_ready (rs := [3]) (by kernel_rfl) (by simp) ?_
  refine AllReadyH.cons rfl (fun K hK => ?_) AllReadyH.nil
  go_simp
  go_at_call 87
  refine (GC.out _ _ Dx0).mono ?_
  rintro e x1 ⟨rfl, h⟩
  have Dx1 : Arr x1 b0 26 .u8 ys := Block.below Dx0 h (Block.lt Dx0)
  have Bx1 := Bx0.trans (h.mono Bx0.size)
  refine hK.out _ _ trivial (fun hS => ?_)
  clear hK K
  try simp only [Act.put, List.setIfInBounds_toArray, List.set_cons_zero, List.set_cons_succ]
  refine wpAnyH_take (i := 4) (v := .int .u64 ck) rfl (by kernel_rfl) (by kernel_rfl) (by kernel_rfl) (fun _ _ _ h => h) (Or.inl ⟨by rfl, fun W hW => by go_simp; exact IntWalk.u64_in _ (by omega)⟩) hS ?_
  try simp only [Act.put, List.setIfInBounds_toArray, List.set_cons_zero, List.set_cons_succ]
  refine wpAnyH_ready (rs := [5]) (by kernel_rfl) (by simp) ?_
  refine AllReadyH.cons rfl (fun K hK => ?_) AllReadyH.nil
  go_simp
  go_at_call 59
  refine (GP.out _ _ Dx1).mono ?_
  rintro e x2 ⟨v, rfl, own, h⟩
  obtain ⟨A4, c4, rfl, k4, m4, Rx2⟩ := own.opened
  have Dx2 : Arr x2 b0 26 .u8 ys := Block.below Dx1 h (Block.lt Dx1)
  have Bx2 := Bx1.trans (h.mono Bx1.size)
  refine hK.out _ _ trivial (fun hS => ?_)
  clear hK K
  try simp only [Act.put, List.setIfInBounds_toArray, List.set_cons_zero, List.set_cons_succ]
  refine wpAnyH_ready (rs := [7]) (by kernel_rfl) (by simp) ?_
  refine AllReadyH.cons rfl (fun K hK => ?_) AllReadyH.nil
  go_simp
  go_at_call 86
  refine (GD.out _ _ _ Rx2).mono ?_
  rintro e x3 ⟨v5, rfl, own5, h⟩
  obtain ⟨A5, c5, rfl, k5, m5, h5⟩ := own5.opened
  have a5 := own_addr own5
  have Dx3 : Arr x3 b0 26 .u8 ys := Block.below Dx2 h (Block.lt Dx2)
  have Bx3 := Bx2.trans (h.mono Bx2.size)
  refine hK.out _ _ trivial (fun hS => ?_)
  clear hK K
  try simp only [Act.put, List.setIfInBounds_toArray, List.set_cons_zero, List.set_cons_succ]
  refine wpAnyH_ready (rs := [9]) (by kernel_rfl) (by simp) ?_
  refine AllReadyH.cons rfl (fun K hK => ?_) AllReadyH.nil
  go_simp
  go_at_call 16
  refine (GH.out _).mono ?_
  rintro e _ ⟨rfl, rfl⟩
  refine hK.out _ _ trivial (fun hS => ?_)
  clear hK K
  try simp only [Act.put, List.setIfInBounds_toArray, List.set_cons_zero, List.set_cons_succ]
  refine wpAnyH_take (i := 10) (v := .slice A5 m c5) rfl (by kernel_rfl) (by kernel_rfl) (by kernel_rfl) (fun _ _ _ h => h) (Or.inl ⟨by rfl, fun W hW => by go_simp <;> first | omega | (rw [if_pos (by omega)])⟩) hS ?_
  try simp only [Act.put, List.setIfInBounds_toArray, List.set_cons_zero, List.set_cons_succ]
  refine wpAnyH_ready (rs := [11]) (by kernel_rfl) (by simp) ?_
  refine AllReadyH.cons rfl (fun K hK => ?_) AllReadyH.nil
  go_simp
  refine hK.out _ _ trivial (fun hS => ?_)
  clear hK K
  try simp only [Act.put, List.setIfInBounds_toArray, List.set_cons_zero, List.set_cons_succ]
  refine wpAnyH_done (by kernel_rfl) ?_ _
  go_wp2_with fail
  go_ret
  have hd := HZ.out
  rw [← HK.out]
  exact ⟨A5, c5, rfl, by rw [HK.out]; omega, m5, by rw [hd]; exact h5.prefix_ _, fun a ha => Nat.le_trans Bx2.size (a5 a ha), Bx3⟩
end Go.Proofs.YtdfgdchmeikigaaDoor.Ot

namespace Go.Proofs.YtdfgdchmeikigaaDoor.Ot
open Go.ChangeShapes Go.WideShapes Go.ChangeAt Go.RowKit Go.Proofs.YtdfgdchmeikigaaDoor.Kit Go.Proofs.YtdfgdchmeikigaaDoor.Sha Go.Proofs.YtdfgdchmeikigaaDoor.Mk Go.Proofs.YtdfgdchmeikigaaDoor.Oct

theorem own_two (w : World) (B : Nat) (hB : B ≤ w.heap.size) (a b : Int) : Own (w.alloc (.cells #[.int .u8 a, .int .u8 b] 5)) B 5 .u8 (.slice (some ⟨w.heap.size, 0, none⟩) 2 2) [a, b] :=
  World.ownsRow_lit (size := 1) w #[.int .u8 a, .int .u8 b] 2 hB (by decide) rfl

set_option maxRecDepth 100000 in
set_option maxHeartbeats 6400000 in
theorem rended_any (id : List Int) (hid : id.length = 16) (hio : Octets id) (q : Int) (hq : 0 ≤ q ∧ q < 4294967296) (A : Option Addr) (bs : List Int) (c : Nat) (w : World) (hx : bs.length ≤ 80000) (ho : Octets bs) (hr : Holds w w.heap.size .u8 A bs) :
    Calls Tryd.prog 57 #[.agg (id.map (Value.int .u8)).toArray, .int .u32 q, .slice A bs.length c] w (Sums (sumL (nmL id q ++ ([128, 128] ++ bs))) w) := by
  have bb : ∀ o p y, Below w.heap.size w (((w.alloc o).alloc p).alloc y) := fun o p y => (below_two' o p).alloc (by simp; omega) y
  have i0 : ∀ p y, Arr (((w.alloc (.cells (id.map (Value.int .u8)).toArray 23)).alloc p).alloc y) w.heap.size 23 .u8 id := fun p y => ((Arr.new w _ _ id).alloc p).alloc y
  have r0 : ∀ o y, Arr (((w.alloc o).alloc (.cells ((List.replicate 32 (0 : Int)).map (Value.int .u8)).toArray 24)).alloc y) (w.heap.size + 1) 24 .u8 (List.replicate 32 0) := fun o y => by
    have := (Arr.new (w.alloc o) 24 .u8 (List.replicate 32 0)).alloc y
    rwa [show (w.alloc o).heap.size = w.heap.size + 1 by simp] at this
  have own0 : ∀ o p, Own (((w.alloc o).alloc p).alloc (.cells #[.int .u8 128, .int .u8 128] 5)) (w.heap.size + 1 + 1) 5 .u8 (.slice (some ⟨w.heap.size + 1 + 1, 0, none⟩) 2 2) [128, 128] := fun o p => by
    have := own_two ((w.alloc o).alloc p) (w.heap.size + 1 + 1) (by simp) 128 128
    rwa [show ((w.alloc o).alloc p).heap.size = w.heap.size + 1 + 1 by simp] at this
  have hsl := Lib.hid (sumL_length (nmL id q ++ ([128, 128] ++ bs)))
  have hao : Octets ([128, 128] ++ bs) := by
    intro x hx
    rcases List.mem_append.1 hx with hx | hx
    · simp at hx; omega
    · exact ho x hx
  have hall : ([128, 128] ++ bs).length ≤ 90000 := by simp; omega
  have GA := Lib.hid (fun W A1 c1 h1 h2 h3 => around_any id hid hio q hq A1 ([128, 128] ++ bs) c1 W hall h1 h2 hao h3)
  have HI := Lib.hid hid
  have hbl : [(128 : Int), 128].length + bs.length ≤ 1099511627776 := by simp; omega
  clear hid hio hall hao
  generalize hys : sumL (nmL id q ++ ([128, 128] ++ bs)) = ys at *
  generalize hals : [128, 128] ++ bs = all at *
  clear hys
  have HA := Lib.hid hals
  clear hals
  go_enter Tryd.func57, Tryd.ntmps57
  go_wp2_with fail
  obtain ⟨W, hW⟩ : ∃ W, (((w.alloc (.cells (id.map (Value.int .u8)).toArray 23)).alloc (.cells ((List.replicate 32 (0 : Int)).map (Value.int .u8)).toArray 24)).alloc (.cells #[.int .u8 128, .int .u8 128] 5)) = W := ⟨_, rfl⟩
  have hB := bb (.cells (id.map (Value.int .u8)).toArray 23) (.cells ((List.replicate 32 (0 : Int)).map (Value.int .u8)).toArray 24) (.cells #[.int .u8 128, .int .u8 128] 5)
  have hn := i0 (.cells ((List.replicate 32 (0 : Int)).map (Value.int .u8)).toArray 24) (.cells #[.int .u8 128, .int .u8 128] 5)
  have hr0 := r0 (.cells (id.map (Value.int .u8)).toArray 23) (.cells #[.int .u8 128, .int .u8 128] 5)
  have ho0 := own0 (.cells (id.map (Value.int .u8)).toArray 23) (.cells ((List.replicate 32 (0 : Int)).map (Value.int .u8)).toArray 24)
  change Code.wp _ _ _ _ (World.alloc (World.alloc (World.alloc w _) (.cells ((List.replicate 32 (0 : Int)).map (Value.int .u8)).toArray 24)) _)
  rw [hW] at hB hn hr0 ho0 ⊢
  have hsz : w.heap.size + 1 + 1 < W.heap.size := by rw [← hW]; simp
  clear bb i0 r0 own0 hW
  have hB := below_draws hB 1
  have hn := hn.drewN 1
  have hr0 := hr0.drewN 1
  have ho0 := ho0.drewN 1
  have hrW := hr.below hB
  refine wp_region_held_drew (S := (fun W => Arr W w.heap.size 23 .u8 id)) (by kernel_rfl) hn (fun hS => ?_)
  refine wpAnyH_take (i := 0) (v := .agg (id.map (Value.int .u8)).toArray) rfl (by kernel_rfl) (by kernel_rfl) (by kernel_rfl) (fun _ _ _ h => h) (yieldsIf_load_mid (by rfl) _ _ rfl w.heap.size 0 rfl (id.map (Value.int .u8)) _ (fun W hW => Arr.range hW) arr16 rfl (by rw [List.length_map, HI.out]; kernel_rfl)) hS ?_
  try simp only [Act.put, List.setIfInBounds_toArray, List.set_cons_zero, List.set_cons_succ]
  refine wpAnyH_take (i := 1) (v := .int .u32 q) rfl (by kernel_rfl) (by kernel_rfl) (by kernel_rfl) (fun _ _ _ h => h) (Or.inl ⟨by rfl, fun W hW => by go_simp⟩) hS ?_
  try simp only [Act.put, List.setIfInBounds_toArray, List.set_cons_zero, List.set_cons_succ]
  refine wpAnyH_take (i := 2) (v := .slice (some ⟨w.heap.size + 1 + 1, 0, none⟩) 2 2) rfl (by kernel_rfl) (by kernel_rfl) (by kernel_rfl) (fun _ _ _ h => h) (Or.inl ⟨by rfl, fun W hW => by go_simp⟩) hS ?_
  try simp only [Act.put, List.setIfInBounds_toArray, List.set_cons_zero, List.set_cons_succ]
  refine wpAnyH_take (i := 3) (v := .slice A bs.length c) rfl (by kernel_rfl) (by kernel_rfl) (by kernel_rfl) (fun _ _ _ h => h) (Or.inl ⟨by rfl, fun W hW => by go_simp⟩) hS ?_
  try simp only [Act.put, List.setIfInBounds_toArray, List.set_cons_zero, List.set_cons_succ]
  obtain ⟨x0, e0⟩ : ∃ x0, x0 = W.drew := ⟨_, rfl⟩
  have nx0 : Arr x0 w.heap.size 23 .u8 id := by rw [e0]; exact hn
  have rx0 : Arr x0 (w.heap.size + 1) 24 .u8 (List.replicate 32 0) := by rw [e0]; exact hr0
  have Bx0 : Below w.heap.size w x0 := by rw [e0]; exact hB
  have ox0 : Own x0 (w.heap.size + 1 + 1) 5 .u8 (.slice (some ⟨w.heap.size + 1 + 1, 0, none⟩) 2 2) [128, 128] := by rw [e0]; exact ho0
  have hx0 : Holds x0 w.heap.size .u8 A bs := by rw [e0]; exact hrW
  have sx0 : w.heap.size + 1 + 1 ≤ x0.heap.size := by rw [e0]; exact Nat.le_of_lt hsz
  rw [← e0] at hS ⊢
  clear hn hr0 hB ho0 hrW e0
  refine wpAnyH_ready (rs := [4]) (by kernel_rfl) (by simp) ?_
  refine AllReadyH.cons rfl (fun K hK => ?_) AllReadyH.nil
  refine step_of_list (by rfl) (fun Q9 hn => ?_)
  refine wpList_append_ints _ rfl (.tmp 11) (.tmp 12) 35 rfl Oct.elem8 ox0 rfl rfl hx0 hbl sx0 ?_
  intro v1 x1 own1 hg1 hb1 _
  rw [HA.out] at own1
  refine hn _ _ ?_
  change K (Act.put _ (some 13) _) _
  clear hn
  have nx1 : Arr x1 w.heap.size 23 .u8 id := Block.below nx0 hb1 (by omega)
  have rx1 : Arr x1 (w.heap.size + 1) 24 .u8 (List.replicate 32 0) := Block.below rx0 hb1 (by omega)
  have Bx1 := Bx0.trans (hb1.mono (by omega))
  obtain ⟨A1, c1, rfl, k1, m1, h1⟩ := own1.opened
  have G := Lib.hid (GA.out x1 A1 c1 k1 m1 h1)
  clear own1 hg1 hb1 ox0 hx0
  refine hK.out _ _ nx1 (fun hS => ?_)
  clear hK K
  try simp only [Act.put, List.setIfInBounds_toArray, List.set_cons_zero, List.set_cons_succ]
  refine wpAnyH_ready (rs := [5]) (by kernel_rfl) (by simp) ?_
  refine AllReadyH.cons rfl (fun K hK => ?_) AllReadyH.nil
  go_simp
  go_at_call 82
  refine G.out.mono ?_
  rintro e x2 ⟨rfl, hb2⟩
  have nx2 : Arr x2 w.heap.size 23 .u8 id := Block.below nx1 hb2 (Block.lt nx1)
  have rx2 : Arr x2 (w.heap.size + 1) 24 .u8 (List.replicate 32 0) := Block.below rx1 hb2 (Block.lt rx1)
  have Bx2 := Bx1.trans (hb2.mono Bx1.size)
  refine hK.out _ _ nx2 (fun hS => ?_)
  clear hK K
  try simp only [Act.put, List.setIfInBounds_toArray, List.set_cons_zero, List.set_cons_succ]
  refine wpAnyH_ready (rs := [6]) (by kernel_rfl) (by simp) ?_
  refine AllReadyH.cons rfl (fun K hK => ?_) AllReadyH.nil
  refine step_store_arr rfl _ _ _ rfl (ys := ys) rx2 rfl rfl (by rw [hsl.out]; rfl) (by rw [hsl.out]; kernel_rfl) ?_
  intro x3 rx3 g3
  have nx3 : Arr x3 w.heap.size 23 .u8 id := Arr.grown nx2 g3 (by intro e; injection e with e; omega)
  refine hK.out _ _ nx3 (fun hS => ?_)
  clear hK K
  try simp only [Act.put, List.setIfInBounds_toArray, List.set_cons_zero, List.set_cons_succ]
  refine wpAnyH_done (by kernel_rfl) ?_ _
  go_wp2_with fail
  refine bodyPost_ret (v := arrV .u8 ys) (results_cell_row rfl _ _ (w.heap.size + 1) 24 _ (0, 0) _ rfl rx3 arr32A rfl (by rw [show (ys.map (Value.int .u8)).toArray.size = 32 by simp [hsl.out]]; kernel_rfl)) rfl ⟨rfl, ?_⟩
  exact Bx2.trans (below_of_grown g3 Bx2.size fun b hb => by injection hb with hb; omega)

set_option maxRecDepth 100000 in
set_option maxHeartbeats 6400000 in
theorem rdgs_any (k : Int) (hk : KindIn k) (id : List Int) (hid : id.length = 16) (hio : Octets id) (q : Int) (hq : 0 ≤ q ∧ q < 4294967296) (A1 : Option Addr) (salt : List Int) (c1 : Nat) (A2 : Option Addr) (text : List Int) (c2 : Nat) (w : World)
    (k1 : RwOk w w.heap.size ⟨A1, c1, salt⟩) (k2 : RwOk w w.heap.size ⟨A2, c2, text⟩) (l1 : salt.length ≤ 40000) (l2 : text.length ≤ 40000) :
    Calls Tryd.prog 62 #[.int .u32 k, .agg (id.map (Value.int .u8)).toArray, .int .u32 q, .slice A1 salt.length c1, .slice A2 text.length c2] w (ReadsN w (dgsL (nmL id q) k salt text)) := by
  have HK := Lib.hid (dgsL_length hk (nmL id q) salt text)
  obtain ⟨hkw, _, _, _⟩ := kind_wide hk
  have hl34 := digs_len34 hk _ (allL_length _ (chk (sumL (nmL id q ++ ([129, 129] ++ salt ++ text))) (wideN k)) (sumL_length (nmL id q ++ ([129, 129] ++ salt ++ text))))
  have hdg : dgsL (nmL id q) k salt text = (digs (sumL (nmL id q ++ ([129, 129] ++ salt ++ text)) ++ be 2 (chk (sumL (nmL id q ++ ([129, 129] ++ salt ++ text))) (wideN k))) (wideN k)).take (manyN k) := rfl
  have HZ := Lib.hid hdg
  generalize dgsL (nmL id q) k salt text = out at *
  clear hdg
  have hsd := sumL_d32 (nmL id q ++ ([129, 129] ++ salt ++ text))
  have hsl := Lib.hid hsd.1
  have hck := chk_bd (sumL (nmL id q ++ ([129, 129] ++ salt ++ text))) (wideN k)
  have hmo : Octets ([129, 129] ++ salt ++ text) := by
    intro x hx
    rcases List.mem_append.1 hx with hx | hx
    · rcases List.mem_append.1 hx with hx | hx
      · simp at hx; omega
      · exact k1.2.2.1 x hx
    · exact k2.2.2.1 x hx
  have hml : ([129, 129] ++ salt ++ text).length ≤ 90000 := by simp; omega
  have GA := Lib.hid (fun W A1 c1 h1 h2 h3 => around_any id hid hio q hq A1 ([129, 129] ++ salt ++ text) c1 W hml h1 h2 hmo h3)
  generalize sumL (nmL id q ++ ([129, 129] ++ salt ++ text)) = ys at *
  have own0 : ∀ o, Own ((w.alloc o).alloc (.cells #[.int .u8 129, .int .u8 129] 5)) (w.heap.size + 1) 5 .u8 (.slice (some ⟨w.heap.size + 1, 0, none⟩) 2 2) [129, 129] := fun o => by
    have := own_two (w.alloc o) (w.heap.size + 1) (by simp) 129 129
    rwa [show (w.alloc o).heap.size = w.heap.size + 1 by simp] at this
  have own0 := own0 (.cells (id.map (Value.int .u8)).toArray 23)
  have i0 : Arr ((w.alloc (.cells (id.map (Value.int .u8)).toArray 23)).alloc (.cells #[.int .u8 129, .int .u8 129] 5)) w.heap.size 23 .u8 id := (Arr.new w _ _ id).alloc _
  have b0 : Below w.heap.size w ((w.alloc (.cells (id.map (Value.int .u8)).toArray 23)).alloc (.cells #[.int .u8 129, .int .u8 129] 5)) := below_two' _ _
  have z0 : w.heap.size + 1 ≤ ((w.alloc (.cells (id.map (Value.int .u8)).toArray 23)).alloc (.cells #[.int .u8 129, .int .u8 129] 5)).heap.size := by simp
  have n1 : [(129 : Int), 129].length + salt.length ≤ 1099511627776 := by simp; omega
  have n2 : ([(129 : Int), 129] ++ salt).length + text.length ≤ 1099511627776 := by simp; omega
  have s1 := k1.2.2.2.below b0
  have s2 := k2.2.2.2
  generalize hal1 : [129, 129] ++ salt = al1 at *
  generalize hal2 : al1 ++ text = al2 at *
  have H1 := Lib.hid hal1
  have H2 := Lib.hid hal2
  clear hal1 hal2
  have HI := Lib.hid hid
  have GC := Lib.hid (fun W b (h : Arr W b 24 .u8 ys) => rcheck_as (some ⟨b, 0, none⟩) ys 32 (wideN k) W (by rw [hsl.out]; decide) hsd.2 h.holds_all)
  have hbo := be_octets 2 (chk ys (wideN k))
  have hao : Octets (ys ++ be 2 (chk ys (wideN k))) := by
    intro x hx
    rcases List.mem_append.1 hx with hx | hx
    · exact hsd.2 x hx
    · exact hbo x hx
  have hal := allL_length ys (chk ys (wideN k)) hsl.out
  have GP : Hid (∀ W b, Arr W b 24 .u8 ys → Calls Tryd.prog 61 #[.slice (some ⟨b, 0, none⟩) ys.length 32, .int .i64 2, .int .u64 (chk ys (wideN k))] W (Rowed (ys ++ be 2 (chk ys (wideN k))) W)) := Lib.hid (fun W b h => rput_any (some ⟨b, 0, none⟩) ys 32 0 2 _ W (by rw [hsl.out]; decide) h.holds_all ⟨hck.1, by omega⟩)
  generalize chk ys (wideN k) = ck at *
  generalize ys ++ be 2 ck = all at *
  have GD := Lib.hid (fun W A c (h : Holds W W.heap.size .u8 A all) => rdigits_own A all c (wideN k) hkw W (by rw [hal]; decide) hao h)
  have GH := Lib.hid (fun W => rchains_any k (by unfold KindIn at hk; omega) W)
  have GW := Lib.hid (fun W => rwide_any k W)
  generalize digs all (wideN k) = ds at *
  generalize wideN k = wd at *
  generalize manyN k = m at *
  rw [hsl.out] at GC GP
  have HM := Lib.hid hal
  clear hkw hal hsd hid hk k1 k2 hmo hml hio
  go_enter Tryd.func62, Tryd.ntmps62
  go_wp2_with (first
    | (have _t := own0; at_builtin; refine wpList_append_ints _ rfl (.tmp 16) (.tmp 17) 35 rfl Oct.elem8 own0 rfl rfl s1 n1 z0 ?_; clear _t own0; intro v1 x1 own1 hg1 hb1 _; rw [H1.out] at own1
       have i1 : Arr x1 w.heap.size 23 .u8 id := Block.below i0 hb1 (by omega)
       have b1 := b0.trans (hb1.mono (by omega))
       have z1 := Nat.le_trans z0 hb1.size
       have s3 := s2.below b1
       clear i0 b0 z0 hg1 hb1 s1)
    | (have _t := own1; at_builtin; refine wpList_append_ints _ rfl (.tmp 19) (.tmp 20) 35 rfl Oct.elem8 own1 rfl rfl s3 n2 z1 ?_; clear _t own1; intro v2 x2 own2 hg2 hb2 _; rw [H2.out] at own2
       have i2 : Arr x2 w.heap.size 23 .u8 id := Block.below i1 hb2 (by omega)
       have b2 := b1.trans (hb2.mono (by omega))
       obtain ⟨A3, c3, rfl, k3, m3, h3⟩ := own2.opened
       have G := Lib.hid (GA.out x2 A3 c3 k3 m3 h3)
       clear i1 b1 z1 hg2 hb2 s3 own2 h3)
    | (have _t := i2; refine wpList_load_arr rfl _ _ rfl i2 rfl arr16 rfl (by rw [HI.out]; kernel_rfl) ?_)
    | (have _t := G; go_at_call 82; refine G.out.mono ?_; clear _t; rintro e w2 ⟨rfl, hb2⟩; have B2 := b2.trans (hb2.mono b2.size); have z2 := res_new w2 24; clear G hb2)
    | (have _t := z2; refine wpList_store_arr rfl _ _ _ rfl (ys := ys) z2 rfl rfl (by rw [hsl.out]; rfl) (by rw [hsl.out]; kernel_rfl) ?_; intro w3 D3 g3; have B3 := below_fill B2 B2.size g3; clear _t z2 B2 g3))
  generalize w2.heap.size = b0 at *
  have B3 := below_draws B3 1
  have D3 := D3.drewN 1
  refine wp_region_held_drew (S := (fun _ => True)) (by kernel_rfl) trivial (fun hS => ?_)
  refine wpAnyH_take (i := 0) (v := .slice (some ⟨b0, 0, none⟩) 32 32) rfl (by kernel_rfl) (by kernel_rfl) (by kernel_rfl) (fun _ _ _ h => h) (Or.inl ⟨by rfl, fun W hW => by go_simp⟩) hS ?_
  try simp only [Act.put, List.setIfInBounds_toArray, List.set_cons_zero, List.set_cons_succ]
  refine wpAnyH_take (i := 1) (v := .slice (some ⟨b0, 0, none⟩) 32 32) rfl (by kernel_rfl) (by kernel_rfl) (by kernel_rfl) (fun _ _ _ h => h) (Or.inl ⟨by rfl, fun W hW => by go_simp⟩) hS ?_
  try simp only [Act.put, List.setIfInBounds_toArray, List.set_cons_zero, List.set_cons_succ]
  refine wpAnyH_take (i := 2) (v := .int .u32 k) rfl (by kernel_rfl) (by kernel_rfl) (by kernel_rfl) (fun _ _ _ h => h) (Or.inl ⟨by rfl, fun W hW => by go_simp⟩) hS ?_
  try simp only [Act.put, List.setIfInBounds_toArray, List.set_cons_zero, List.set_cons_succ]
  obtain ⟨x0, e0⟩ : ∃ x0, x0 = w3.drew := ⟨_, rfl⟩
  have Dx0 : Arr x0 b0 24 .u8 ys := by rw [e0]; exact D3
  have Bx0 : Below w.heap.size w x0 := by rw [e0]; exact B3
  rw [← e0]
  clear B3 D3 e0
  refine wpAnyH_ready (rs := [3]) (by kernel_rfl) (by simp) ?_
  refine AllReadyH.cons rfl (fun K hK => ?_) AllReadyH.nil
  go_simp
  go_at_call 15
  refine (GW.out _).mono ?_
  rintro e _ ⟨rfl, rfl⟩
  refine hK.out _ _ trivial (fun hS => ?_)
  clear hK K
  try simp only [Act.put, List.setIfInBounds_toArray, List.set_cons_zero, List.set_cons_succ]
  refine wpAnyH_ready (rs := [4]) (by kernel_rfl) (by simp) ?_
  refine AllReadyH.cons rfl (fun K hK => ?_) AllReadyH.nil
  go_simp
  go_at_call 88
  refine (GC.out _ _ Dx0).mono ?_
  rintro e x1 ⟨rfl, h⟩
  have Dx1 : Arr x1 b0 24 .u8 ys := Block.below Dx0 h (Block.lt Dx0)
  have Bx1 := Bx0.trans (h.mono Bx0.size)
  refine hK.out _ _ trivial (fun hS => ?_)
  clear hK K
  try simp only [Act.put, List.setIfInBounds_toArray, List.set_cons_zero, List.set_cons_succ]
  refine wpAnyH_take (i := 5) (v := .int .u64 ck) rfl (by kernel_rfl) (by kernel_rfl) (by kernel_rfl) (fun _ _ _ h => h) (Or.inl ⟨by rfl, fun W hW => by go_simp; exact IntWalk.u64_in _ (by omega)⟩) hS ?_
  try simp only [Act.put, List.setIfInBounds_toArray, List.set_cons_zero, List.set_cons_succ]
  refine wpAnyH_ready (rs := [6]) (by kernel_rfl) (by simp) ?_
  refine AllReadyH.cons rfl (fun K hK => ?_) AllReadyH.nil
  go_simp
  go_at_call 61
  refine (GP.out _ _ Dx1).mono ?_
  rintro e x2 ⟨v, rfl, own, h⟩
  obtain ⟨A4, c4, rfl, k4, m4, R4⟩ := own.opened
  have Dx2 : Arr x2 b0 24 .u8 ys := Block.below Dx1 h (Block.lt Dx1)
  have Bx2 := Bx1.trans (h.mono Bx1.size)
  refine hK.out _ _ trivial (fun hS => ?_)
  clear hK K
  try simp only [Act.put, List.setIfInBounds_toArray, List.set_cons_zero, List.set_cons_succ]
  refine wpAnyH_ready (rs := [7]) (by kernel_rfl) (by simp) ?_
  refine AllReadyH.cons rfl (fun K hK => ?_) AllReadyH.nil
  go_simp
  refine hK.out _ _ trivial (fun hS => ?_)
  clear hK K
  try simp only [Act.put, List.setIfInBounds_toArray, List.set_cons_zero, List.set_cons_succ]
  refine wpAnyH_done (by kernel_rfl) ?_ _
  go_wp2_with (first
    | (go_at_call 15; refine (GW.out _).mono ?_; rintro e _ ⟨rfl, rfl⟩)
    | (go_at_call 89; refine (GD.out _ _ _ R4).mono ?_; rintro e x3 ⟨v5, rfl, own5, h⟩; obtain ⟨A5, c5, rfl, k5, m5, h5⟩ := own5.opened; have a5 := own_addr own5; have Bx3 := Bx2.trans (h.mono Bx2.size))
    | (have _t := Bx3; go_at_call 13; refine (GH.out _).mono ?_; clear _t; rintro e x4 ⟨rfl, h⟩; have Bx4 := Bx3.trans (h.mono Bx3.size); have h6 := h5.on h; have hm5 : m ≤ c5 := by omega))
  go_ret
  have hd := HZ.out
  rw [← HK.out]
  exact ⟨A5, c5, rfl, by rw [HK.out]; omega, m5, by rw [hd]; exact h6.prefix_ _, fun a ha => Nat.le_trans Bx2.size (a5 a ha), Bx4⟩
end Go.Proofs.YtdfgdchmeikigaaDoor.Ot
