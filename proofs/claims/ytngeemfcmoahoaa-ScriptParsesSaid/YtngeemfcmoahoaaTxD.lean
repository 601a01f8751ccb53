/-
  Layer 30, the document's Unhex: a contract. Conditions: as each theorem names.
-/
import Derived.Test.YtngeemfcmoahoaaTxC
namespace Go.Proofs.Ytngeemfcmoahoaa.Tx
open Go.ChangeShapes Go.WideShapes Go.ChangeAt Go.RowKit Go.Proofs.Ytngeemfcmoahoaa.Kit

def outK (cs : List Int) (k : Nat) : List Int := (List.range k).map fun j => 16 * valD (cs.getD (2 * j) 0) + valD (cs.getD (2 * j + 1) 0)
theorem outK_length (cs : List Int) (k : Nat) : (outK cs k).length = k := by simp [outK]
theorem outK_next (cs : List Int) (k : Nat) : outK cs (k + 1) = outK cs k ++ [16 * valD (cs.getD (2 * k) 0) + valD (cs.getD (2 * k + 1) 0)] := by
  unfold outK
  rw [List.range_succ, List.map_append]
  rfl
theorem outK_all (cs : List Int) (n : Nat) : outK cs n = fillH cs n (2 * n) := by
  unfold outK fillH
  refine List.map_congr_left fun j hj => ?_
  have := List.mem_range.1 hj
  rw [if_pos (by omega)]

set_option maxRecDepth 100000 in
set_option maxHeartbeats 6400000 in
theorem runhex_own (s : ByteArray) (w : World) (hs : s.size ≤ 1000000) : Calls Try.prog 8 #[.string s] w (UnOwn s w) := by
  have hnl := numsOf_length s
  have hb0 : Below w.heap.size w (w.alloc (.cells #[] 5)) := (Below.refl _ _).alloc (Nat.le_refl _) _
  by_cases h46 : s = ⟨#[46]⟩
  · subst h46
    go_enter Try.func8, Try.ntmps8
    go_wp2
    go_ret2
    exact ⟨_, rfl, Own.empty w 5 .u8 (Nat.le_refl _), hb0⟩
  have hn46 : numsOf s ≠ [46] := fun h => h46 ((str46 s).2 h)
  have d46 : (s.toList == [46]) = false := by
    rw [beq_eq_false_iff_ne]
    intro h
    apply h46
    have h2 : s.data.toList = [46] := by rw [← ByteArray.toList_eq]; exact h
    obtain ⟨⟨l⟩⟩ := s
    simp at h2
    rw [h2]
  have HN46 := Lib.hid hn46
  have HNL := Lib.hid hnl
  have own0 := Own.empty (B := w.heap.size) w 5 .u8 (Nat.le_refl _)
  have HO0 := Lib.hid own0
  have HB0 := Lib.hid hb0
  clear h46 hn46 hnl own0 hb0
  by_cases h0 : s.size = 0
  · have hse : s = ⟨#[]⟩ := by
      obtain ⟨⟨l⟩⟩ := s
      have : l.length = 0 := h0
      rw [List.eq_nil_of_length_eq_zero this]
    subst hse
    have HU := Lib.hid (unhex_none HN46.out (.inl (List.eq_nil_of_length_eq_zero (by rw [HNL.out]; exact h0))))
    clear h0 d46
    go_enter Try.func8, Try.ntmps8
    go_wp2
    go_ret2
    refine ⟨.slice (some ⟨w.heap.size, 0, none⟩) 0 0, ?_, ?_, HB0.out⟩
    · rw [HU.out.1]; rfl
    · rw [HU.out.2]; exact HO0.out
  have hne : s.toList ≠ [] := by
    intro h
    apply h0
    have h2 : s.data.toList = [] := by rw [← ByteArray.toList_eq]; exact h
    obtain ⟨⟨l⟩⟩ := s
    simp at h2
    rw [h2]
    rfl
  have e0 : (s.toList == []) = false := by rw [beq_eq_false_iff_ne]; exact hne
  have e1 : s.toList.isEmpty = false := by
    cases hq : s.toList with
    | nil => exact absurd hq hne
    | cons _ _ => rfl
  by_cases h2 : s.size % 2 = 1
  · have e2 : ((s.size : Int) % 2 == 1) = true := by rw [beq_iff_eq]; omega
    have e3 : (s.size % 2 == 1) = true := by rw [beq_iff_eq]; omega
    have HU := Lib.hid (unhex_none HN46.out (.inr (.inl (by rw [HNL.out]; exact h2))))
    clear h2 h0 hne
    go_enter Try.func8, Try.ntmps8
    go_wp2
    go_ret2
    refine ⟨.slice (some ⟨w.heap.size, 0, none⟩) 0 0, ?_, ?_, HB0.out⟩
    · rw [HU.out.1]; rfl
    · rw [HU.out.2]; exact HO0.out
  have e2 : ((s.size : Int) % 2 == 1) = false := by rw [beq_eq_false_iff_ne]; omega
  have e3 : (s.size % 2 == 1) = false := by rw [beq_eq_false_iff_ne]; omega
  obtain ⟨n, hn⟩ : ∃ n, s.size = 2 * n := ⟨s.size / 2, by omega⟩
  have hn0 : 0 < n := by omega
  have HN := Lib.hid hn
  have hnb : n ≤ 500000 := by omega
  clear h0 h2 hn hne
  go_enter Try.func8, Try.ntmps8
  go_wp2_with fail
  go_loopw [4, 5] (fun t u wr => ∃ k : Nat, k ≤ n ∧ u = .int .i64 ((2 * k : Nat) : Int) ∧ Own wr w.heap.size 5 .u8 t (outK (numsOf s) k) ∧ Hid (∀ j, j < 2 * k → 0 ≤ valD ((numsOf s).getD j 0)) ∧ Below w.heap.size w wr) (fun _ u _ => s.size - (intOf u).toNat)
  case atStart => exact ⟨0, Nat.zero_le _, rfl, HO0.out, Lib.hid (fun j hj => absurd hj (by omega)), HB0.out⟩
  case round =>
    obtain ⟨k, hk, rfl, own, HV, hB⟩ := hrel
    have HB := Lib.hid hB
    have hsz := hB.size
    clear hB HO0 HB0
    obtain ⟨i, hi⟩ : ∃ i, 2 * k = i := ⟨_, rfl⟩
    rw [hi] at HV ⊢
    have HI := Lib.hid hi
    by_cases hlt : i < s.size
    · have hkn : k < n := by have := HN.out; omega
      have hlt2 : i + 1 < s.size := by have := HN.out; omega
      have dj : decide ((i : Int) < (s.size : Int)) = true := decide_eq_true (by omega)
      have dj2 : decide (i < s.size) = true := decide_eq_true hlt
      have hc1 := numsOf_get s i hlt
      have hc2 := numsOf_get s (i + 1) hlt2
      have HNX := Lib.hid (outK_next (numsOf s) k)
      rw [hi, hc1, hc2] at HNX
      have GV1 := Lib.hid (fun W => value_any ((s[i].toNat : Nat) : Int) W (by have := s[i].toNat_lt; omega))
      have GV2 := Lib.hid (fun W => value_any ((s[i + 1].toNat : Nat) : Int) W (by have := s[i + 1].toNat_lt; omega))
      have hb1 := valD_bd ((s[i].toNat : Nat) : Int)
      have hb2 := valD_bd ((s[i + 1].toNat : Nat) : Int)
      have HC1 := Lib.hid hc1
      have HC2 := Lib.hid hc2
      obtain ⟨V1, hV1⟩ : ∃ V, valD ((s[i].toNat : Nat) : Int) = V := ⟨_, rfl⟩
      obtain ⟨V2, hV2⟩ : ∃ V, valD ((s[i + 1].toNat : Nat) : Int) = V := ⟨_, rfl⟩
      rw [hV1] at GV1 hb1 HNX
      rw [hV2] at GV2 hb2 HNX
      have HV1 := Lib.hid hV1
      have HV2 := Lib.hid hV2
      have HO := Lib.hid own
      have hol := outK_length (numsOf s) k
      have HOL := Lib.hid hol
      clear hc1 hc2 hV1 hV2 own hi hol
      by_cases v1 : V1 < 0
      · rw [if_pos v1, decide_eq_false (show ¬ 0 ≤ V1 by omega)] at GV1
        have HU := Lib.hid (unhex_none HN46.out (.inr (.inr ⟨i, by rw [HNL.out]; exact hlt, by rw [HC1.out, HV1.out]; exact v1⟩)))
        have HB2 := Lib.hid (HB.out.alloc hsz (.cells #[] 5))
        obtain ⟨b2, hb2'⟩ : ∃ b, decide (0 ≤ V2) = b := ⟨_, rfl⟩
        rw [hb2'] at GV2
        obtain ⟨y2, hy2⟩ : ∃ y, (if V2 < 0 then 0 else V2) = y := ⟨_, rfl⟩
        rw [hy2] at GV2
        clear hb2' hy2 HNX
        go_wp2_with (first
          | (go_at_call 16; (with_reducible refine (GV1.out _).mono ?_); rintro e w3 ⟨rfl, rfl⟩)
          | (go_at_call 16; (with_reducible refine (GV2.out _).mono ?_); rintro e w3 ⟨rfl, rfl⟩))
        go_ret2
        refine ⟨.slice (some ⟨wr.heap.size, 0, none⟩) 0 0, ?_, ?_, HB2.out⟩
        · rw [HU.out.1]; rfl
        · rw [HU.out.2]; exact Own.empty wr 5 .u8 hsz
      · rw [if_neg v1, decide_eq_true (show 0 ≤ V1 by omega)] at GV1
        by_cases v2 : V2 < 0
        · rw [if_pos v2, decide_eq_false (show ¬ 0 ≤ V2 by omega)] at GV2
          have HU := Lib.hid (unhex_none HN46.out (.inr (.inr ⟨i + 1, by rw [HNL.out]; exact hlt2, by rw [HC2.out, HV2.out]; exact v2⟩)))
          have HB2 := Lib.hid (HB.out.alloc hsz (.cells #[] 5))
          clear HNX
          go_wp2_with (first
            | (go_at_call 16; (with_reducible refine (GV1.out _).mono ?_); rintro e w3 ⟨rfl, rfl⟩)
            | (go_at_call 16; (with_reducible refine (GV2.out _).mono ?_); rintro e w3 ⟨rfl, rfl⟩))
          go_ret2
          refine ⟨.slice (some ⟨wr.heap.size, 0, none⟩) 0 0, ?_, ?_, HB2.out⟩
          · rw [HU.out.1]; rfl
          · rw [HU.out.2]; exact Own.empty wr 5 .u8 hsz
        · rw [if_neg v2, decide_eq_true (show 0 ≤ V2 by omega)] at GV2
          have hnew := Holds.new wr .u8 (16 * V1 + V2) 5
          have HNW := Lib.hid hnew
          have HOA := Lib.hid (HO.out.alloc (.cells #[.int .u8 (16 * V1 + V2)] 5))
          have HBA := Lib.hid (HB.out.alloc hsz (.cells #[.int .u8 (16 * V1 + V2)] 5))
          have hbA : w.heap.size ≤ (wr.alloc (.cells #[.int .u8 (16 * V1 + V2)] 5)).heap.size := by simp; omega
          clear hnew
          go_wp2_with (first
            | (go_at_call 16; (with_reducible refine (GV1.out _).mono ?_); rintro e w3 ⟨rfl, rfl⟩)
            | (go_at_call 16; (with_reducible refine (GV2.out _).mono ?_); rintro e w3 ⟨rfl, rfl⟩)
            | (at_builtin; go_loud (refine wpList_append_ints (ys := [16 * V1 + V2]) _ rfl _ _ _ rfl elem8 HOA.out rfl rfl HNW.out (by rw [HOL.out]; simp only [List.length_cons, List.length_nil]; omega) hbA ?_; intro v5 w5 own5 hg5 hb5 hv5; rw [← HNX.out] at own5)))
          go_roundw
          case rel =>
            refine ⟨k + 1, by omega, ?_, own5, Lib.hid fun j hj => ?_, HBA.out.trans hb5⟩
            · have := HI.out; congr 1; omega
            · have hik := HI.out
              by_cases hj1 : j < i
              · exact HV.out j hj1
              · by_cases hj2 : j = i
                · rw [hj2, HC1.out, HV1.out]; omega
                · rw [show j = i + 1 by omega, HC2.out, HV2.out]; omega
          case measure => simp [intOf] <;> omega
    · have dj : decide ((i : Int) < (s.size : Int)) = false := decide_eq_false (by omega)
      have dj2 : decide (i < s.size) = false := decide_eq_false hlt
      have hkn : k = n := by have := HN.out; have := HI.out; omega
      subst hkn
      have HU := Lib.hid (unhex_full HN46.out (by rw [HNL.out]; exact HN.out) hn0 (fun j hj => HV.out j (by have := HI.out; omega)))
      rw [outK_all, ← HU.out.2] at own
      obtain ⟨A9, c9, rfl, k9, _, hh⟩ := own.opened
      have HH := Lib.hid own
      clear own hh hi
      go_wp2_with fail
      go_ret2
      refine ⟨_, ?_, HH.out, HB.out⟩
      rw [HU.out.1]
      rfl
theorem runhex_any (s : ByteArray) (w : World) (hs : s.size ≤ 1000000) : Calls Try.prog 8 #[.string s] w (UnTo s w) := (runhex_own s w hs).mono fun _ _ h => h.to
end Go.Proofs.Ytngeemfcmoahoaa.Tx
