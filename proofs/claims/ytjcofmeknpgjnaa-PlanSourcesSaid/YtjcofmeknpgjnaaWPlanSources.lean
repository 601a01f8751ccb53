/-
  PlanSources: the walk: ranges of an image; no image has none.
-/
import Derived.Test.YtjcofmeknpgjnaaPlQ
import Derived.BigQuiet
namespace Go.Proofs.Ytjcofmeknpgjnaa.PlanSources
open Go.ChangeShapes Go.WideShapes Go.ChangeAt Go.RowKit Go.Proofs.Ytjcofmeknpgjnaa.Kit Go.Proofs.Ytjcofmeknpgjnaa.Pl

set_option maxRecDepth 100000 in
set_option maxHeartbeats 3200000 in
theorem asleep (A : Option Addr) (b : List Int) (c : Nat) (from_ n : Int) (w : World) (hlo : (2000 : Int) < b.length) :
    Calls Try.prog 6 #[.slice A b.length c, .int .i64 from_, .int .i64 n] w fun e w' => e = .returned (.bool true) ∧ Below w.heap.size w w' := by
  have hd : decide ((2000 : Int) < (b.length : Int)) = true := decide_eq_true hlo
  go_enter Try.func6, Try.ntmps6
  go_wp2_with (go_at_call 8; refine (awake_any _).mono ?_; rintro e w2 ⟨rfl, hb2⟩)
  go_ret
  exact ⟨rfl, hb2⟩

set_option maxRecDepth 100000 in
set_option maxHeartbeats 3200000 in
theorem out_of (A : Option Addr) (b : List Int) (c : Nat) (from_ n : Int) (w : World) (hl : b.length ≤ 2000) (hf : -9223372036854775808 ≤ from_ ∧ from_ ≤ 9223372036854775807) (hn : -9223372036854775808 ≤ n ∧ n ≤ 9223372036854775807) (h : okRange b from_ n = false) :
    Calls Try.prog 6 #[.slice A b.length c, .int .i64 from_, .int .i64 n] w fun e w' => e = .returned (.bool true) ∧ Below w.heap.size w w' := by
  have hd : decide ((2000 : Int) < (b.length : Int)) = false := decide_eq_false (by omega)
  have G := Lib.hid (range_no A b c from_ n w hf hn (by omega) h)
  have h := of_decide_eq_false h
  have h4 : from_ < 0 ∨ 0 ≤ from_ ∧ n < 0 ∨ 0 ≤ from_ ∧ 0 ≤ n ∧ (b.length : Int) < from_ ∨ 0 ≤ from_ ∧ 0 ≤ n ∧ from_ ≤ b.length ∧ (b.length : Int) - from_ < n := by omega
  clear h
  rcases h4 with h1 | ⟨h1, h2⟩ | ⟨h1, h2, h3⟩ | ⟨h1, h2, h3, h5⟩
  all_goals
    go_enter Try.func6, Try.ntmps6
    go_wp2_with (first
      | (go_at_call 19; refine G.out.mono ?_; rintro e w1 ⟨A1, c1, rfl, hr1, hl1, hm1, hb1⟩)
      | (go_at_call 8; refine (awake_any _).mono ?_; rintro e w2 ⟨rfl, hb2⟩))
    go_ret
    exact ⟨rfl, hb1.trans (hb2.mono hb1.size)⟩

theorem none_made : evalE none [⟨2, 0, 1, none, 0, []⟩] 1 = ([], 5) := by decide +kernel
theorem one_made (A : Option Addr) : evalE none [⟨1, 0, 1, A, 1, [7]⟩] 1 = ([7], 0) := rfl

theorem eval_none (wq : World) : Calls Try.prog 17 #[.slice (some ⟨wq.heap.size, 0, none⟩) 1 1, .nilIface, .int .i64 1] (wq.alloc (.cells #[.int .u8 2, .int .i64 0, .int .i64 1, .slice none 0 0] 28)) (GivesE [] 5 (wq.alloc (.cells #[.int .u8 2, .int .i64 0, .int .i64 1, .slice none 0 0] 28))) := by
  have hs := one_step (a := 2) (n := 0) (x := 1) (A := none) (zs := []) (c := 0) (Block.new wq 28 #[.int .u8 2, .int .i64 0, .int .i64 1, .slice none 0 0]) rfl rfl rfl (Nat.le_refl _) (by decide) (by intro x hx; cases hx) Holds.nil
  have G8 := eval_any (some ⟨wq.heap.size, 0, none⟩) _ 1 .nilIface none 1 _ (by simp) (by simp) (by decide) hs rfl
  rw [none_made] at G8
  exact G8

theorem eval_one (wq : World) : Calls Try.prog 17 #[.slice (some ⟨wq.heap.size + 1, 0, none⟩) 1 1, .nilIface, .int .i64 1] ((wq.alloc (.cells #[.int .u8 7] 5)).alloc (.cells #[.int .u8 1, .int .i64 0, .int .i64 1, .slice (some ⟨wq.heap.size, 0, none⟩) 1 1] 28))
    (GivesE [7] 0 ((wq.alloc (.cells #[.int .u8 7] 5)).alloc (.cells #[.int .u8 1, .int .i64 0, .int .i64 1, .slice (some ⟨wq.heap.size, 0, none⟩) 1 1] 28))) := by
  have b1 := (Block.new wq 5 (([7] : List Int).map (Value.int .u8)).toArray).alloc (.cells #[.int .u8 1, .int .i64 0, .int .i64 1, .slice (some ⟨wq.heap.size, 0, none⟩) 1 1] 28)
  have b2 := Block.new (wq.alloc (.cells #[.int .u8 7] 5)) 28 #[.int .u8 1, .int .i64 0, .int .i64 1, .slice (some ⟨wq.heap.size, 0, none⟩) 1 1]
  rw [show (wq.alloc (.cells #[.int .u8 7] 5)).heap.size = wq.heap.size + 1 from by simp] at b2
  have hs := one_step (zs := [7]) b2 rfl rfl rfl (Nat.le_refl _) (by decide) (by intro x hx; simp at hx; omega) (holds_block b1)
  have G8 := eval_any (some ⟨wq.heap.size + 1, 0, none⟩) _ 1 .nilIface none 1 _ (by simp) (by simp) (by decide) hs rfl
  rw [one_made] at G8
  exact G8

set_option maxRecDepth 100000 in
set_option maxHeartbeats 6400000 in
theorem within (A : Option Addr) (b : List Int) (c : Nat) (f k : Nat) (w : World) (hl : b.length ≤ 2000) (hc : b.length ≤ c) (hm : c ≤ maxLen) (ho : Octets b) (hr : Holds w w.heap.size .u8 A b) (h : f + k ≤ b.length) :
    Calls Try.prog 6 #[.slice A b.length c, .int .i64 f, .int .i64 k] w fun e w' => e = .returned (.bool true) ∧ Below w.heap.size w w' := by
  have hd : decide ((2000 : Int) < (b.length : Int)) = false := decide_eq_false (by omega)
  have hs : strOfNums [7] = { data := #[7] } := by decide
  have Hs := Lib.hid hs
  have hlen : ((b.drop f).take k).length = k := by simp; omega
  have G := Lib.hid (range_yes A b c f k w (by omega) hc hm hr h)
  have hcv : ∀ W, Below w.heap.size w W → (convert 26 9 (.slice (if c = f then A else A.map fun x => x.add f) k (c - f))).run Try.prog W = .ok (.string (strOfNums ((b.drop f).take k))) W := by
    intro W hW
    by_cases hcf : c = f
    · obtain rfl : k = 0 := by omega
      rw [if_pos hcf]
      have := conv_any W A [] (c - f) 0 Holds.nil
      simpa using this
    · rw [if_neg hcf]
      have := conv_any W (A.map fun x => x.add f) ((b.drop f).take k) (c - f) _ (holds_part (hr.below hW) f k)
      rw [hlen] at this
      exact this
  generalize (b.drop f).take k = ys at *
  subst hlen
  have h0 : decide ((f : Int) < 0) = false := decide_eq_false (by omega)
  have h1 : decide ((ys.length : Int) < 0) = false := decide_eq_false (by omega)
  have h2 : decide ((b.length : Int) < (f : Int)) = false := decide_eq_false (by omega)
  have h3 : decide ((b.length : Int) - (f : Int) < (ys.length : Int)) = false := decide_eq_false (by omega)
  have h4 : decide (b.length < f) = false := decide_eq_false (by omega)
  have h5 : ¬ b.length < f := by omega
  have HC := Lib.hid hcv
  clear hcv hs
  go_enter Try.func6, Try.ntmps6
  go_wp2_with (go_at_call 19; refine G.out.mono ?_; rintro e w1 ⟨A1, c1, rfl, hr1, hl1, hm1, hb1⟩)
  have f1 := fun n => conv_any (w1.drewN n) A1 ys c1 w1.heap.size hr1
  have f2 := fun n => HC.out (w1.drewN n) (below_draws hb1 n)
  have hfk : f + ys.length - f = ys.length := by omega
  go_quiet (fail)
  have hbq : Below w.heap.size w (w1.drewN nq) := below_draws hb1 nq
  clear f1 f2 hr1 hl1 hm1 G HC hr hb1
  generalize w1.drewN nq = wq at *
  generalize (if c = f then A else A.map fun x => x.add f) = Aq at *
  have hba := hbq.alloc hbq.size (.cells #[.int .u8 2, .int .i64 0, .int .i64 1, .slice none 0 0] 28)
  have hn := Lib.hid (eval_none wq)
  go_wp2_with fail
  refine hn.out.mono ?_
  rintro e w2 ⟨A2, c2, rfl, hr2, hl2, hm2, hb2⟩
  have hb02 := hba.trans (hb2.mono hba.size)
  have he := Lib.hid (eval_one w2)
  have hb3 := (hb02.alloc hb02.size (.cells #[.int .u8 7] 5)).alloc (by have := hb02.size; simp; omega) (.cells #[.int .u8 1, .int .i64 0, .int .i64 1, .slice (some ⟨w2.heap.size, 0, none⟩) 1 1] 28)
  clear hn hr2 hl2 hm2 hba hbq hb2
  go_wp2_with fail
  refine he.out.mono ?_
  rintro e w4 ⟨A4, c4, rfl, hr4, hl4, hm4, hb4⟩
  have f4 := conv_any w4 A4 [7] c4 _ hr4
  rw [Hs.out] at f4
  simp only [List.length_cons, List.length_nil, Nat.zero_add] at f4
  have hb5 := hb3.trans (hb4.mono hb3.size)
  clear he hr4 hb3 hb4
  go_wp2_with (go_at_call 8; refine (awake_any _).mono ?_; rintro e w9 ⟨rfl, hb9⟩)
  go_ret
  exact ⟨rfl, hb5.trans (hb9.mono hb5.size)⟩

theorem walk (A : Option Addr) (b : List Int) (c : Nat) (from_ n : Int) (w : World) (hc : b.length ≤ c) (hm : c ≤ maxLen) (ho : Octets b) (hr : Holds w w.heap.size .u8 A b) (hf : (Lit.int .i64 from_).wf = true) (hn : (Lit.int .i64 n).wf = true) :
    Calls Try.prog 6 #[.slice A b.length c, .int .i64 from_, .int .i64 n] w fun e w' => e = .returned (.bool true) ∧ Below w.heap.size w w' := by
  have h1 : -9223372036854775808 ≤ from_ ∧ from_ ≤ 9223372036854775807 := bounds_i64 hf
  have h2 : -9223372036854775808 ≤ n ∧ n ≤ 9223372036854775807 := bounds_i64 hn
  by_cases hl : b.length ≤ 2000
  · cases h : okRange b from_ n with
    | false => exact out_of A b c from_ n w hl h1 h2 h
    | true =>
      have hk := of_decide_eq_true h
      obtain ⟨f, rfl⟩ := Int.eq_ofNat_of_zero_le hk.1
      obtain ⟨k, rfl⟩ := Int.eq_ofNat_of_zero_le hk.2.1
      exact within A b c f k w hl hc hm ho hr (by omega)
  · exact asleep A b c from_ n w (by omega)
end Go.Proofs.Ytjcofmeknpgjnaa.PlanSources
