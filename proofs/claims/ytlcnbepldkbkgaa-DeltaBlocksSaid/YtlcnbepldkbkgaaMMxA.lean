/-
  Layer 15, match: how far one gets; a piece with what is around it: contracts. Conditions: as each theorem names.
-/
import Derived.Test.YtlcnbepldkbkgaaMSxE
import Derived.Test.YtlcnbepldkbkgaaMMtC
namespace Go.Proofs.Ytlcnbepldkbkgaa.Mx
open Go.ChangeShapes Go.WideShapes Go.ChangeAt Go.RowKit Go.Proofs.Ytlcnbepldkbkgaa.Kit Go.Proofs.Ytlcnbepldkbkgaa.Sx


set_option maxRecDepth 100000 in
set_option maxHeartbeats 6400000 in
theorem reach_back {w : World} {most : Int} {p : Nat → Bool} {c1 c2 c3 : Value} (hm : most ≤ 1000000) (h0 : -1000000 ≤ most)
    (hf : ∀ (k : Nat), (k : Int) < most → ∀ m : Nat, Calls Try.prog 35 #[.int .i64 k, c1, c2, c3] (w.drewN m) fun e w' => e = .returned (.bool (p k)) ∧ ∃ m, w' = w.drewN m) :
    Calls Try.prog 34 #[.int .i64 most, .func (.func 35) #[] #[c1, c2, c3]] w fun e w' => (∃ far : Nat, e = .returned (.int .i64 far) ∧ ReachOk most p far) ∧ ∃ m, w' = w.drewN m := by
  have HF := Lib.hid hf
  have HC0 : Hid ((0 : Int) = 2 * (cnt p 0 : Int) - ((0 : Nat) : Int)) := Lib.hid rfl
  clear hf
  go_enter Try.func34, Try.ntmps34
  go_wp2_with fail
  go_loopw [5, 6, 7, 8] (fun sf sb sc sk wr => ∃ (far k : Nat) (best score : Int), sf = .int .i64 far ∧ sb = .int .i64 best ∧ sc = .int .i64 score ∧ sk = .int .i64 k ∧ far ≤ k ∧ ((k : Int) ≤ most ∨ k = 0) ∧ 0 ≤ best ∧ best = 2 * (cnt p far : Int) - (far : Int) ∧ score = 2 * (cnt p k : Int) - (k : Int) ∧ ∃ m, wr = w.drewN m) (fun _ _ _ sk _ => (most - intOf sk).toNat)
  case atStart => exact ⟨0, 0, 0, 0, rfl, rfl, rfl, rfl, Nat.le_refl _, .inr rfl, Int.le_refl _, HC0.out, HC0.out, 0, rfl⟩
  case round =>
    obtain ⟨far, k, best, score, rfl, rfl, rfl, rfl, hfk, hk, hb0, hb, hs, m, hm3⟩ := hrel
    have HB := Lib.hid hb
    have HS := Lib.hid hs
    have HM := Lib.hid hm3
    have hcl := cnt_le p k
    have hcf := cnt_le p far
    have hk6 : k ≤ 1000000 := by omega
    have hs6 : -1000000 ≤ score ∧ score ≤ 1000000 := by omega
    have hb6 : best ≤ 1000000 := by omega
    have HFIN : Hid (ReachOk most p far) := Lib.hid ⟨by omega, by omega⟩
    by_cases hlt : (k : Int) < most
    · have d1 : decide ((k : Int) < most) = true := decide_eq_true hlt
      by_cases hgt : best - 32 < score
      · have d2 : decide (best - 32 < score) = true := decide_eq_true hgt
        have G := Lib.hid (HF.out k hlt m)
        rw [← hm3] at G
        have HST : Hid (cnt p (k + 1) = cnt p k + if p k = true then 1 else 0) := Lib.hid rfl
        clear hb hs hm3 hcl hcf
        cases hp : p k with
        | true =>
          rw [hp] at G HST
          by_cases hbet : best < score + 1
          · have d3 : decide (best < score + 1) = true := decide_eq_true hbet
            have HN : Hid (score + 1 = 2 * (cnt p (k + 1) : Int) - ((k + 1 : Nat) : Int)) := Lib.hid (by have h1 := HST.out; have h2 := HS.out; rw [if_pos rfl] at h1; omega)
            go_wp2_with (go_at_call 35; refine G.out.mono ?_; rintro e w1 ⟨rfl, m1, rfl⟩)
            go_roundw
            case rel => exact ⟨k + 1, k + 1, score + 1, score + 1, by go_num, rfl, rfl, by go_num, Nat.le_refl _, .inl (by omega), by omega, HN.out, HN.out, m1, rfl⟩
            case measure => simp [intOf] <;> omega
          · have d3 : decide (best < score + 1) = false := decide_eq_false hbet
            have HN : Hid (score + 1 = 2 * (cnt p (k + 1) : Int) - ((k + 1 : Nat) : Int)) := Lib.hid (by have h1 := HST.out; have h2 := HS.out; rw [if_pos rfl] at h1; omega)
            go_wp2_with (go_at_call 35; refine G.out.mono ?_; rintro e w1 ⟨rfl, m1, rfl⟩)
            go_roundw
            case rel => exact ⟨far, k + 1, best, score + 1, rfl, rfl, rfl, by go_num, by omega, .inl (by omega), hb0, HB.out, HN.out, m1, rfl⟩
            case measure => simp [intOf] <;> omega
        | false =>
          rw [hp] at G HST
          have HN : Hid (score - 1 = 2 * (cnt p (k + 1) : Int) - ((k + 1 : Nat) : Int)) := Lib.hid (by have h1 := HST.out; have h2 := HS.out; rw [if_neg (by simp)] at h1; omega)
          by_cases hbet : best < score - 1
          · have d3 : decide (best < score - 1) = true := decide_eq_true hbet
            go_wp2_with (go_at_call 35; refine G.out.mono ?_; rintro e w1 ⟨rfl, m1, rfl⟩)
            go_roundw
            case rel => exact ⟨k + 1, k + 1, score - 1, score - 1, by go_num, rfl, rfl, by go_num, Nat.le_refl _, .inl (by omega), by omega, HN.out, HN.out, m1, rfl⟩
            case measure => simp [intOf] <;> omega
          · have d3 : decide (best < score - 1) = false := decide_eq_false hbet
            go_wp2_with (go_at_call 35; refine G.out.mono ?_; rintro e w1 ⟨rfl, m1, rfl⟩)
            go_roundw
            case rel => exact ⟨far, k + 1, best, score - 1, rfl, rfl, rfl, by go_num, by omega, .inl (by omega), hb0, HB.out, HN.out, m1, rfl⟩
            case measure => simp [intOf] <;> omega
      · have d2 : decide (best - 32 < score) = false := decide_eq_false hgt
        clear hb hs hm3
        go_wp2_with fail
        go_ret
        exact ⟨⟨far, rfl, HFIN.out⟩, m, HM.out⟩
    · have d1 : decide ((k : Int) < most) = false := decide_eq_false hlt
      clear hb hs hm3
      go_wp2_with fail
      go_ret
      exact ⟨⟨far, rfl, HFIN.out⟩, m, HM.out⟩

set_option maxRecDepth 100000 in
set_option maxHeartbeats 6400000 in
theorem reach_more {w : World} {most : Int} {p : Nat → Bool} {c1 c2 c3 : Value} (hm : most ≤ 1000000) (h0 : -1000000 ≤ most)
    (hf : ∀ (k : Nat), (k : Int) < most → ∀ m : Nat, Calls Try.prog 36 #[.int .i64 k, c1, c2, c3] (w.drewN m) fun e w' => e = .returned (.bool (p k)) ∧ ∃ m, w' = w.drewN m) :
    Calls Try.prog 34 #[.int .i64 most, .func (.func 36) #[] #[c1, c2, c3]] w fun e w' => (∃ far : Nat, e = .returned (.int .i64 far) ∧ ReachOk most p far) ∧ ∃ m, w' = w.drewN m := by
  have HF := Lib.hid hf
  have HC0 : Hid ((0 : Int) = 2 * (cnt p 0 : Int) - ((0 : Nat) : Int)) := Lib.hid rfl
  clear hf
  go_enter Try.func34, Try.ntmps34
  go_wp2_with fail
  go_loopw [5, 6, 7, 8] (fun sf sb sc sk wr => ∃ (far k : Nat) (best score : Int), sf = .int .i64 far ∧ sb = .int .i64 best ∧ sc = .int .i64 score ∧ sk = .int .i64 k ∧ far ≤ k ∧ ((k : Int) ≤ most ∨ k = 0) ∧ 0 ≤ best ∧ best = 2 * (cnt p far : Int) - (far : Int) ∧ score = 2 * (cnt p k : Int) - (k : Int) ∧ ∃ m, wr = w.drewN m) (fun _ _ _ sk _ => (most - intOf sk).toNat)
  case atStart => exact ⟨0, 0, 0, 0, rfl, rfl, rfl, rfl, Nat.le_refl _, .inr rfl, Int.le_refl _, HC0.out, HC0.out, 0, rfl⟩
  case round =>
    obtain ⟨far, k, best, score, rfl, rfl, rfl, rfl, hfk, hk, hb0, hb, hs, m, hm3⟩ := hrel
    have HB := Lib.hid hb
    have HS := Lib.hid hs
    have HM := Lib.hid hm3
    have hcl := cnt_le p k
    have hcf := cnt_le p far
    have hk6 : k ≤ 1000000 := by omega
    have hs6 : -1000000 ≤ score ∧ score ≤ 1000000 := by omega
    have hb6 : best ≤ 1000000 := by omega
    have HFIN : Hid (ReachOk most p far) := Lib.hid ⟨by omega, by omega⟩
    by_cases hlt : (k : Int) < most
    · have d1 : decide ((k : Int) < most) = true := decide_eq_true hlt
      by_cases hgt : best - 32 < score
      · have d2 : decide (best - 32 < score) = true := decide_eq_true hgt
        have G := Lib.hid (HF.out k hlt m)
        rw [← hm3] at G
        have HST : Hid (cnt p (k + 1) = cnt p k + if p k = true then 1 else 0) := Lib.hid rfl
        clear hb hs hm3 hcl hcf
        cases hp : p k with
        | true =>
          rw [hp] at G HST
          by_cases hbet : best < score + 1
          · have d3 : decide (best < score + 1) = true := decide_eq_true hbet
            have HN : Hid (score + 1 = 2 * (cnt p (k + 1) : Int) - ((k + 1 : Nat) : Int)) := Lib.hid (by have h1 := HST.out; have h2 := HS.out; rw [if_pos rfl] at h1; omega)
            go_wp2_with (go_at_call 36; refine G.out.mono ?_; rintro e w1 ⟨rfl, m1, rfl⟩)
            go_roundw
            case rel => exact ⟨k + 1, k + 1, score + 1, score + 1, by go_num, rfl, rfl, by go_num, Nat.le_refl _, .inl (by omega), by omega, HN.out, HN.out, m1, rfl⟩
            case measure => simp [intOf] <;> omega
          · have d3 : decide (best < score + 1) = false := decide_eq_false hbet
            have HN : Hid (score + 1 = 2 * (cnt p (k + 1) : Int) - ((k + 1 : Nat) : Int)) := Lib.hid (by have h1 := HST.out; have h2 := HS.out; rw [if_pos rfl] at h1; omega)
            go_wp2_with (go_at_call 36; refine G.out.mono ?_; rintro e w1 ⟨rfl, m1, rfl⟩)
            go_roundw
            case rel => exact ⟨far, k + 1, best, score + 1, rfl, rfl, rfl, by go_num, by omega, .inl (by omega), hb0, HB.out, HN.out, m1, rfl⟩
            case measure => simp [intOf] <;> omega
        | false =>
          rw [hp] at G HST
          have HN : Hid (score - 1 = 2 * (cnt p (k + 1) : Int) - ((k + 1 : Nat) : Int)) := Lib.hid (by have h1 := HST.out; have h2 := HS.out; rw [if_neg (by simp)] at h1; omega)
          by_cases hbet : best < score - 1
          · have d3 : decide (best < score - 1) = true := decide_eq_true hbet
            go_wp2_with (go_at_call 36; refine G.out.mono ?_; rintro e w1 ⟨rfl, m1, rfl⟩)
            go_roundw
            case rel => exact ⟨k + 1, k + 1, score - 1, score - 1, by go_num, rfl, rfl, by go_num, Nat.le_refl _, .inl (by omega), by omega, HN.out, HN.out, m1, rfl⟩
            case measure => simp [intOf] <;> omega
          · have d3 : decide (best < score - 1) = false := decide_eq_false hbet
            go_wp2_with (go_at_call 36; refine G.out.mono ?_; rintro e w1 ⟨rfl, m1, rfl⟩)
            go_roundw
            case rel => exact ⟨far, k + 1, best, score - 1, rfl, rfl, rfl, by go_num, by omega, .inl (by omega), hb0, HB.out, HN.out, m1, rfl⟩
            case measure => simp [intOf] <;> omega
      · have d2 : decide (best - 32 < score) = false := decide_eq_false hgt
        clear hb hs hm3
        go_wp2_with fail
        go_ret
        exact ⟨⟨far, rfl, HFIN.out⟩, m, HM.out⟩
    · have d1 : decide ((k : Int) < most) = false := decide_eq_false hlt
      clear hb hs hm3
      go_wp2_with fail
      go_ret
      exact ⟨⟨far, rfl, HFIN.out⟩, m, HM.out⟩

set_option maxRecDepth 100000 in
set_option maxHeartbeats 6400000 in
theorem back_one {w : World} {p1 p2 p3 : Nat} {xs ys : List Int} {A1 A2 : Option Addr} {ca cb n o l k : Nat} (h1 : w.cell? ⟨p1, 0, none⟩ = some (.slice A2 ys.length cb)) (h3 : w.cell? ⟨p3, 0, none⟩ = some (.slice A1 xs.length ca))
    (g0 : w.cell? ⟨p2, 0, none⟩ = some (.int .i64 n)) (g1 : w.cell? ⟨p2, 1, none⟩ = some (.int .i64 o)) (g2 : w.cell? ⟨p2, 2, none⟩ = some (.int .i64 l)) {B C : Nat} (hx : Holds w B .u8 A1 xs) (hy : Holds w C .u8 A2 ys) (hxl : xs.length ≤ 1000000) (hyl : ys.length ≤ 1000000)
    (hk1 : k < n) (hk2 : k < o) (hn : n ≤ ys.length) (ho : o ≤ xs.length) :
    Calls Try.prog 35 #[.int .i64 k, .pointer (some ⟨p1, 0, none⟩), .pointer (some ⟨p2, 0, none⟩), .pointer (some ⟨p3, 0, none⟩)] w fun e w' => e = .returned (.bool (decide (ys.getD (n - 1 - k) 0 = xs.getD (o - 1 - k) 0))) ∧ ∃ m, w' = w.drewN m := by
  obtain ⟨b1, o1, rfl, -, hc1⟩ := hx (by omega)
  obtain ⟨b2, o2, rfl, -, hc2⟩ := hy (by omega)
  have c1 := hc1 (o - 1 - k) (by omega)
  have c2 := hc2 (n - 1 - k) (by omega)
  obtain ⟨D, hD⟩ : ∃ D, decide (ys.getD (n - 1 - k) 0 = xs.getD (o - 1 - k) 0) = D := ⟨_, rfl⟩
  rw [hD]
  have hD2 : (ys.getD (n - 1 - k) 0 == xs.getD (o - 1 - k) 0) = D := by rw [← hD]; rfl
  obtain ⟨i, hi⟩ : ∃ i, n - 1 - k = i := ⟨_, rfl⟩
  obtain ⟨j, hj⟩ : ∃ j, o - 1 - k = j := ⟨_, rfl⟩
  rw [hi, hj] at hD2
  rw [hi] at c2
  rw [hj] at c1
  have e1 : (n : Int) - 1 - (k : Int) = (i : Int) := by omega
  have e2 : (o : Int) - 1 - (k : Int) = (j : Int) := by omega
  have i1 : (i : Int) < (ys.length : Int) := by omega
  have i2 : (j : Int) < (xs.length : Int) := by omega
  generalize xs.getD j 0 = x at *
  generalize ys.getD i 0 = y at *
  clear hx hy hc1 hc2 hD hi hj
  go_enter Try.func35, Try.ntmps35
  go_wp2_with fail
  go_quiet (fail)
  go_wp2_with fail
  go_ret
  subst hD2
  exact ⟨rfl, _, rfl⟩

set_option maxRecDepth 100000 in
set_option maxHeartbeats 6400000 in
theorem more_one {w : World} {p1 p2 p3 : Nat} {xs ys : List Int} {A1 A2 : Option Addr} {ca cb n o l k : Nat} (h1 : w.cell? ⟨p1, 0, none⟩ = some (.slice A2 ys.length cb)) (h3 : w.cell? ⟨p3, 0, none⟩ = some (.slice A1 xs.length ca))
    (g0 : w.cell? ⟨p2, 0, none⟩ = some (.int .i64 n)) (g1 : w.cell? ⟨p2, 1, none⟩ = some (.int .i64 o)) (g2 : w.cell? ⟨p2, 2, none⟩ = some (.int .i64 l)) {B C : Nat} (hx : Holds w B .u8 A1 xs) (hy : Holds w C .u8 A2 ys) (hxl : xs.length ≤ 1000000) (hyl : ys.length ≤ 1000000)
    (hk1 : n + l + k < ys.length) (hk2 : o + l + k < xs.length) :
    Calls Try.prog 36 #[.int .i64 k, .pointer (some ⟨p1, 0, none⟩), .pointer (some ⟨p2, 0, none⟩), .pointer (some ⟨p3, 0, none⟩)] w fun e w' => e = .returned (.bool (decide (ys.getD (n + l + k) 0 = xs.getD (o + l + k) 0))) ∧ ∃ m, w' = w.drewN m := by
  obtain ⟨b1, o1, rfl, -, hc1⟩ := hx (by omega)
  obtain ⟨b2, o2, rfl, -, hc2⟩ := hy (by omega)
  have c1 := hc1 (o + l + k) (by omega)
  have c2 := hc2 (n + l + k) (by omega)
  obtain ⟨D, hD⟩ : ∃ D, decide (ys.getD (n + l + k) 0 = xs.getD (o + l + k) 0) = D := ⟨_, rfl⟩
  rw [hD]
  have hD2 : (ys.getD (n + l + k) 0 == xs.getD (o + l + k) 0) = D := by rw [← hD]; rfl
  obtain ⟨i, hi⟩ : ∃ i, n + l + k = i := ⟨_, rfl⟩
  obtain ⟨j, hj⟩ : ∃ j, o + l + k = j := ⟨_, rfl⟩
  rw [hi, hj] at hD2
  rw [hi] at c2
  rw [hj] at c1
  have e1 : (n : Int) + (l : Int) + (k : Int) = (i : Int) := by omega
  have e2 : (o : Int) + (l : Int) + (k : Int) = (j : Int) := by omega
  have i1 : (i : Int) < (ys.length : Int) := by omega
  have i2 : (j : Int) < (xs.length : Int) := by omega
  generalize xs.getD j 0 = x at *
  generalize ys.getD i 0 = y at *
  clear hx hy hc1 hc2 hD hi hj
  go_enter Try.func36, Try.ntmps36
  go_wp2_with fail
  go_quiet (fail)
  go_wp2_with fail
  go_ret
  subst hD2
  exact ⟨rfl, _, rfl⟩
end Go.Proofs.Ytlcnbepldkbkgaa.Mx
