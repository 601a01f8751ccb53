/-
  Layer 9, huff: whether lengths may be: both functions, one answer. Conditions: as each theorem names.
-/
import Derived.Test.YthflefdchgpbdaaDoorMGIces0
import Derived.Test.YthflefdchgpbdaaDoorMBitH
namespace Go.Proofs.YthflefdchgpbdaaDoor.Huf
open Go.ChangeShapes Go.WideShapes Go.ChangeAt Go.RowKit Go.Proofs.YthflefdchgpbdaaDoor.Kit Go.Proofs.YthflefdchgpbdaaDoor.Bits

theorem take_snoc (xs : List Int) (k : Nat) (h : k < xs.length) : xs.take (k + 1) = xs.take k ++ [xs[k]] := by
  rw [List.take_add_one, List.getElem?_eq_getElem h]; rfl

theorem all_take {l : List Int} {i : Nat} (hi : l.length ≤ i) (h : ∀ n ∈ l.take i, n ≤ 15) : ∀ n ∈ l, n ≤ 15 := by
  rwa [List.take_of_length_le hi] at h

set_option maxHeartbeats 1600000 in
theorem may_any (A : Option Addr) (l : List Int) (c : Nat) (w : World) (ho : Octets l) (hc : l.length ≤ c) (hm : c ≤ maxLen) (hr : Holds w w.heap.size .u8 A l) :
    Calls Tryd.prog 60 #[.slice A l.length c] w fun e w' => e = .returned (.bool (mayB l)) ∧ w = w' := by
  unfold maxLen at hm
  by_cases hl : l.length ≤ 300
  · have d0 : decide ((300 : Int) < (l.length : Int)) = false := decide_eq_false (by omega)
    go_enter Tryd.func60, Tryd.ntmps60
    go_wp2_with fail
    go_loop [3, 4, 5, 13] (fun x3 x4 x5 s => ∃ i : Nat, i ≤ l.length ∧ s = .int .i64 i ∧ x3 = .int .i64 (kr (l.take i)) ∧ x4 = .int .i64 (nz (l.take i)) ∧ x5 = .int .u8 (lastNz (l.take i)) ∧ Hid (J (l.take i) ∧ ∀ n ∈ l.take i, n ≤ 15)) (fun _ _ _ s => l.length - (intOf s).toNat)
    case atStart => exact ⟨0, Nat.zero_le _, rfl, rfl, rfl, rfl, Lib.hid ⟨J_nil, by simp⟩⟩
    case round =>
      obtain ⟨i, hi, rfl, rfl, rfl, rfl, hJ⟩ := hrel
      have hk := kr_bd (l.take i)
      have hz := nz_bd (l.take i)
      have hf := last_bd (l.take i) (ho.head i)
      have htl : (l.take i).length ≤ 300 := by simp; omega
      have hk2 : 0 ≤ kr (l.take i) ∧ kr (l.take i) ≤ 4915200 := by omega
      have hz2 : 0 ≤ nz (l.take i) ∧ nz (l.take i) ≤ 300 := by omega
      clear hk hz
      by_cases hlt : i < l.length
      · obtain ⟨bb, off, rfl, hbl, hcs⟩ := hr (by omega)
        have hci := hcs i hlt
        rw [show l.getD i 0 = l[i] by simp [List.getD, hlt]] at hci
        have hts := take_snoc l i hlt
        have hx := ho l[i] (List.getElem_mem hlt)
        have hmem := List.getElem_mem hlt
        have hJ2 := J_snoc hJ.out.1 l[i]
        have hk3 := kr_append (l.take i) [l[i]]
        have hz3 := nz_append (l.take i) [l[i]]
        have hf3 := last_snoc (l.take i) l[i]
        have ha3 : ∀ n ∈ l.take i ++ [l[i]], n ≤ l[i] ∨ n ≤ 15 := fun n hn => (List.mem_append.1 hn).elim (fun h => .inr (hJ.out.2 n h)) (fun h => .inl (by simp at h; omega))
        rw [← hts] at hJ2 hk3 hz3 hf3 ha3
        simp only [kr, nz, Int.add_zero] at hk3 hz3
        clear hts hcs
        generalize l[i] = x at *
        generalize kr (l.take i) = K at *
        generalize nz (l.take i) = Z at *
        generalize lastNz (l.take i) = F at *
        by_cases h15 : x ≤ 15
        · have d1 : decide ((15 : Int) < x) = false := decide_eq_false (by omega)
          have hJ4 : Hid (J (l.take (i + 1)) ∧ ∀ n ∈ l.take (i + 1), n ≤ 15) := Lib.hid ⟨hJ2, fun n hn => by have := ha3 n hn; omega⟩
          by_cases h0 : 0 < x
          · have d2 : decide ((0 : Int) < x) = true := decide_eq_true h0
            rw [if_pos h0] at hz3 hf3
            unfold part1 at hk3
            rw [if_pos h0] at hk3
            obtain ⟨m, rfl⟩ := Int.eq_ofNat_of_zero_le hx.1
            rw [Int.toNat_natCast] at hk3
            have hp1 := p2_pos (15 - m)
            have hp2 : (2 : Int) ^ (15 - m) ≤ 2 ^ 14 := p2_le (by omega)
            rw [show (2 : Int) ^ 14 = 16384 by decide] at hp2
            have Hk3 := Lib.hid hk3
            have Hz3 := Lib.hid hz3
            have Hf3 := Lib.hid hf3
            clear hk3 hz3 hf3 hJ2 ha3 hmem
            go_wp2_with fail
            go_round
            case rel => exact ⟨i + 1, by omega, by go_num, by rw [Hk3.out], by rw [Hz3.out], by rw [Hf3.out], hJ4⟩
            case measure => simp [intOf] <;> omega
          · have d2 : decide ((0 : Int) < x) = false := decide_eq_false h0
            rw [if_neg h0] at hz3 hf3
            unfold part1 at hk3
            rw [if_neg h0] at hk3
            have Hk3 := Lib.hid hk3
            have Hz3 := Lib.hid hz3
            have Hf3 := Lib.hid hf3
            clear hk3 hz3 hf3 hJ2 ha3 hmem
            go_wp2_with fail
            go_round
            case rel => exact ⟨i + 1, by omega, by go_num, congrArg _ (by rw [Hk3.out]; omega), congrArg _ (by rw [Hz3.out]; omega), by rw [Hf3.out], hJ4⟩
            case measure => simp [intOf] <;> omega
        · have d1 : decide ((15 : Int) < x) = true := decide_eq_true (by omega)
          have hg := Lib.hid (may_great hmem (by omega : 15 < x))
          clear hJ2 hk3 hz3 hf3 ha3 hmem
          go_wp2_with fail
          go_ret
          exact ⟨congrArg (fun z => Ending.returned (.bool z)) hg.out.symm, rfl⟩
      · obtain rfl : i = l.length := by omega
        have hg := Lib.hid (may_first (l := l) (by have := hJ.out.1; rwa [List.take_of_length_le (Nat.le_refl _)] at this) hl (all_take (Nat.le_refl _) hJ.out.2) ho)
        rw [List.take_of_length_le (Nat.le_refl _)] at *
        generalize kr l = K at *
        generalize nz l = Z at *
        generalize lastNz l = F at *
        clear hJ
        by_cases hK : K = 32768
        · subst hK
          go_wp2_with fail
          go_ret
          exact ⟨congrArg (fun z => Ending.returned (.bool z)) (by rw [hg.out]; simp), rfl⟩
        · have d1 : ((K : Int) == 32768) = false := by rw [beq_eq_false_iff_ne]; exact hK
          have HK := Lib.hid hK
          clear hK
          by_cases hZ : Z = 0
          · subst hZ
            go_wp2_with fail
            go_ret
            exact ⟨congrArg (fun z => Ending.returned (.bool z)) (by rw [hg.out]; simp), rfl⟩
          · have d2 : ((Z : Int) == 0) = false := by rw [beq_eq_false_iff_ne]; exact hZ
            have HZ := Lib.hid hZ
            clear hZ
            by_cases hZ1 : Z = 1
            · subst hZ1
              by_cases hF : F = 1
              · subst hF
                go_wp2_with fail
                go_ret
                exact ⟨congrArg (fun z => Ending.returned (.bool z)) (by rw [hg.out]; simp [HK.out]), rfl⟩
              · have d3 : ((F : Int) == 1) = false := by rw [beq_eq_false_iff_ne]; exact hF
                have HF := Lib.hid hF
                clear hF
                go_wp2_with fail
                go_ret
                exact ⟨congrArg (fun z => Ending.returned (.bool z)) (by rw [hg.out]; simp [HK.out, HF.out]), rfl⟩
            · have d3 : ((Z : Int) == 1) = false := by rw [beq_eq_false_iff_ne]; exact hZ1
              have HZ1 := Lib.hid hZ1
              clear hZ1
              go_wp2_with fail
              go_ret
              exact ⟨congrArg (fun z => Ending.returned (.bool z)) (by rw [hg.out]; simp [HK.out, HZ.out, HZ1.out]), rfl⟩
  · have d0 : decide ((300 : Int) < (l.length : Int)) = true := decide_eq_true (by omega)
    have hg := Lib.hid (may_long hl)
    go_enter Tryd.func60, Tryd.ntmps60
    go_wp2_with fail
    go_ret
    exact ⟨congrArg (fun z => Ending.returned (.bool z)) hg.out.symm, rfl⟩
end Go.Proofs.YthflefdchgpbdaaDoor.Huf
