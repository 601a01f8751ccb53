/-
  Layer 30, the document's numbers: a contract. Conditions: as each theorem names.
-/
import Derived.Test.YtngeemfcmoahoaaTyP
import Derived.Test.YtngeemfcmoahoaaTxD
namespace Go.Proofs.Ytngeemfcmoahoaa.Ty
open Go.ChangeShapes Go.WideShapes Go.ChangeAt Go.RowKit Go.Proofs.Ytngeemfcmoahoaa.Kit Go.Proofs.Ytngeemfcmoahoaa.Tx

def NumTo (s : ByteArray) (most : Int) (w : World) (e : Ending) (w' : World) : Prop :=
  ∃ n : Int, e = .returned (.tuple #[.int .i64 n, .bool (numB (numsOf s) most)]) ∧ (numB (numsOf s) most = true → n = valN (numsOf s)) ∧ w = w'
theorem NumTo.no {s : ByteArray} {most : Int} {w : World} (h : numB (numsOf s) most = false) : NumTo s most w (.returned (.tuple #[.int .i64 0, .bool false])) w :=
  ⟨0, by rw [h], (fun h2 => absurd h2 (by rw [h]; decide)), rfl⟩
theorem str_ne {s : ByteArray} (h : s.size ≠ 0) : (s.toList == []) = false ∧ s.toList.isEmpty = false := by
  have hne : s.toList ≠ [] := by
    intro h1
    apply h
    have h2 : s.data.toList = [] := by rw [← ByteArray.toList_eq]; exact h1
    obtain ⟨⟨l⟩⟩ := s
    simp at h2
    rw [h2]
    rfl
  refine ⟨by rw [beq_eq_false_iff_ne]; exact hne, ?_⟩
  cases hq : s.toList with
  | nil => exact absurd hq hne
  | cons _ _ => rfl
theorem str_nil {s : ByteArray} (h : s.size = 0) : s = ⟨#[]⟩ := by
  obtain ⟨⟨l⟩⟩ := s
  have : l.length = 0 := h
  rw [List.eq_nil_of_length_eq_zero this]

set_option maxRecDepth 100000 in
set_option maxHeartbeats 6400000 in
theorem rnumber_any (s : ByteArray) (most : Int) (w : World) (hs : s.size ≤ 1000000) (hm : 0 ≤ most ∧ most ≤ 2147483647) :
    Calls Try.prog 52 #[.string s, .int .i64 most] w (NumTo s most w) := by
  have hnl := numsOf_length s
  by_cases h0 : s.size = 0
  · obtain rfl := str_nil h0
    go_enter Try.func52, Try.ntmps52
    go_wp2
    go_ret2
    exact NumTo.no rfl
  obtain ⟨e0, e1⟩ := str_ne h0
  by_cases h1 : 10 < s.size
  · have d0 : decide ((10 : Int) < (s.size : Int)) = true := decide_eq_true (by omega)
    have d1 : decide (10 < s.size) = true := decide_eq_true h1
    have HN := Lib.hid (numB_long (cs := numsOf s) (by rw [hnl]; exact h1) most)
    clear hnl
    go_enter Try.func52, Try.ntmps52
    go_wp2
    go_ret2
    exact NumTo.no HN.out
  have d0 : decide ((10 : Int) < (s.size : Int)) = false := decide_eq_false (by omega)
  have d1 : decide (10 < s.size) = false := decide_eq_false h1
  have hne : numsOf s ≠ [] := by intro h; rw [h] at hnl; simp at hnl; omega
  have hsz : 0 < s.size := by omega
  have hc0 := numsOf_get s 0 hsz
  have fin : ∀ (hz : ¬ (1 < (numsOf s).length ∧ (numsOf s).getD 0 0 = 48)), True := fun _ => trivial
  have HNL := Lib.hid hnl
  have HNE := Lib.hid hne
  have HC0 := Lib.hid hc0
  clear hnl hne hc0 fin
  by_cases hz : 1 < s.size ∧ s[0].toNat = 48
  · have d2 : decide ((1 : Int) < (s.size : Int)) = true := decide_eq_true (by omega)
    have d3 : decide (1 < s.size) = true := decide_eq_true hz.1
    have d4 : (((s[0].toNat : Nat) : Int) == 48) = true := by rw [beq_iff_eq]; omega
    have HN := Lib.hid (numB_zero (cs := numsOf s) (by rw [HNL.out]; exact hz.1) (by rw [HC0.out]; omega) most)
    clear hz
    go_enter Try.func52, Try.ntmps52
    go_wp2
    go_ret2
    exact NumTo.no HN.out
  have HZ := Lib.hid (show ¬ (1 < (numsOf s).length ∧ (numsOf s).getD 0 0 = 48) by rw [HNL.out, HC0.out]; omega)
  have rest : ∀ (d2 : decide ((1 : Int) < (s.size : Int)) = true ∧ decide (1 < s.size) = true ∧ (((s[0].toNat : Nat) : Int) == 48) = false ∨ decide ((1 : Int) < (s.size : Int)) = false ∧ decide (1 < s.size) = false), Calls Try.prog 52 #[.string s, .int .i64 most] w (NumTo s most w) := by
    intro dd
    clear hz h0 h1
    rcases dd with ⟨d2, d3, d4⟩ | ⟨d2, d3⟩
    all_goals
      go_enter Try.func52, Try.ntmps52
      go_wp2
      go_loop [6, 7] (fun n u => ∃ i : Nat, i ≤ s.size ∧ u = .int .i64 i ∧ n = .int .i64 (valN ((numsOf s).take i)) ∧ Hid (((numsOf s).take i).all isD = true)) (fun _ u => s.size - (intOf u).toNat)
      case atStart => exact ⟨0, Nat.zero_le _, rfl, rfl, Lib.hid rfl⟩
      case round =>
        obtain ⟨i, hi, rfl, rfl, HA⟩ := hrel
        have hvb := valN_bd10 HA.out (by rw [List.length_take, HNL.out]; have := of_decide_eq_false d1; omega)
        by_cases hlt : i < s.size
        · have dj : decide ((i : Int) < (s.size : Int)) = true := decide_eq_true (by omega)
          have dj2 : decide (i < s.size) = true := decide_eq_true hlt
          have hc := numsOf_get s i hlt
          have hc8 := s[i].toNat_lt
          by_cases c0 : s[i].toNat < 48
          · have f0 : decide (((s[i].toNat : Nat) : Int) < 48) = true := decide_eq_true (by omega)
            have f1 : decide (s[i].toNat < 48) = true := decide_eq_true c0
            have HN := Lib.hid (numB_bad (all_bad (cs := numsOf s) (i := i) (by rw [HNL.out]; exact hlt) (by rw [hc]; unfold isD; rw [decide_eq_false (show ¬ (48 : Int) ≤ _ by omega)]; rfl)) most)
            clear hc
            go_wp2
            go_ret2
            exact NumTo.no HN.out
          have f0 : decide (((s[i].toNat : Nat) : Int) < 48) = false := decide_eq_false (by omega)
          have f1 : decide (s[i].toNat < 48) = false := decide_eq_false c0
          by_cases c1 : 57 < s[i].toNat
          · have f2 : decide ((57 : Int) < ((s[i].toNat : Nat) : Int)) = true := decide_eq_true (by omega)
            have f3 : decide (57 < s[i].toNat) = true := decide_eq_true c1
            have HN := Lib.hid (numB_bad (all_bad (cs := numsOf s) (i := i) (by rw [HNL.out]; exact hlt) (by rw [hc]; unfold isD; rw [decide_eq_false (show ¬ (((s[i].toNat : Nat) : Int) ≤ 57) by omega)]; simp)) most)
            clear hc
            go_wp2
            go_ret2
            exact NumTo.no HN.out
          have f2 : decide ((57 : Int) < ((s[i].toNat : Nat) : Int)) = false := decide_eq_false (by omega)
          have f3 : decide (57 < s[i].toNat) = false := decide_eq_false c1
          have hil : i < (numsOf s).length := by rw [HNL.out]; exact hlt
          have hge : (numsOf s)[i] = ((s[i].toNat : Nat) : Int) := by rw [← hc, List.getD_eq_getElem?_getD, List.getElem?_eq_getElem hil]; rfl
          have htk : (numsOf s).take (i + 1) = (numsOf s).take i ++ [((s[i].toNat : Nat) : Int)] := by rw [List.take_succ_eq_append_getElem hil, hge]
          have HV := Lib.hid (show valN ((numsOf s).take (i + 1)) = 10 * valN ((numsOf s).take i) + (((s[i].toNat : Nat) : Int) - 48) by rw [htk, valN_snoc])
          have HA2 := Lib.hid (show ((numsOf s).take (i + 1)).all isD = true by
            rw [htk, List.all_append, HA.out]
            simp [isD]
            omega)
          generalize valN ((numsOf s).take i) = V at *
          clear hc htk hge
          go_wp2
          go_round
          case rel => exact ⟨i + 1, hlt, by go_num, by rw [HV.out], HA2⟩
          case measure => simp [intOf] <;> omega
        · obtain rfl : i = s.size := by omega
          have dj : decide ((s.size : Int) < (s.size : Int)) = false := decide_eq_false (by omega)
          have dj2 : decide (s.size < s.size) = false := decide_eq_false (by omega)
          have HT := Lib.hid (show (numsOf s).take s.size = numsOf s by rw [List.take_of_length_le (by rw [HNL.out]; exact Nat.le_refl _)])
          have HN := Lib.hid (numB_end (cs := numsOf s) HNE.out (by rw [HNL.out]; have := of_decide_eq_false d1; omega) HZ.out (by have := HA.out; rw [HT.out] at this; exact this) most)
          rw [HT.out]
          go_wp2
          go_ret2
          exact ⟨valN (numsOf s), (by rw [HN.out]; rfl), fun _ => rfl, rfl⟩
  by_cases a : 1 < s.size
  · exact rest (.inl ⟨decide_eq_true (by omega), decide_eq_true a, by rw [beq_eq_false_iff_ne]; omega⟩)
  · exact rest (.inr ⟨decide_eq_false (by omega), decide_eq_false a⟩)
end Go.Proofs.Ytngeemfcmoahoaa.Ty
