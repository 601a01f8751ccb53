/-
  Layer 30, the document's digits and texts: contracts. Conditions: as each theorem names.
-/
import Derived.Test.YtngeemfcmoahoaaTxB
import Derived.Deep.RegionLaw
import Derived.Laws.Concat
namespace Go.Proofs.Ytngeemfcmoahoaa.Tx
open Go.ChangeShapes Go.WideShapes Go.ChangeAt Go.RowKit Go.Proofs.Ytngeemfcmoahoaa.Kit

theorem str_join (xs ys : List Int) : strOfNums xs ++ strOfNums ys = strOfNums (xs ++ ys) := by
  unfold strOfNums
  rw [List.map_append]
  apply ByteArray.ext
  simp
theorem add_str {P : Program} (xs ys : List Int) (h : xs.length + ys.length ≤ 1000000) (W : World) : (Op.stringOp .add (strOfNums xs) (strOfNums ys)).run P W = .ok (.string (strOfNums (xs ++ ys))) W := by
  rw [← str_join]
  exact run_string_add_sum W _ _ (by rw [strOfNums_size, strOfNums_size]; omega)

set_option maxRecDepth 100000 in
set_option maxHeartbeats 1600000 in
theorem digit_any (n : Int) (w : World) (hn : 0 ≤ n ∧ n < 16) :
    Calls Try.prog 17 #[.int .u8 n] w fun e w' => e = .returned (.string (strOfNums [dig n])) ∧ Below w.heap.size w w' := by
  by_cases h : n < 10
  · have d0 : decide (n < 10) = true := decide_eq_true h
    have e : dig n = 48 + n := if_pos h
    rw [e]
    have hB := (Below.refl w.heap.size w).alloc (Nat.le_refl _) (.cells #[.int .u8 (48 + n)] 5)
    have f1 : (convert 22 9 (.slice (some ⟨w.heap.size, 0, none⟩) 1 1)).run Try.prog (w.alloc (.cells #[.int .u8 (48 + n)] 5)) = .ok (.string (strOfNums [48 + n])) (w.alloc (.cells #[.int .u8 (48 + n)] 5)) := conv_bytes Try.underlying22 Try.underlying5 Try.underlying9 (w.alloc (.cells #[.int .u8 (48 + n)] 5)) (some ⟨w.heap.size, 0, none⟩) [48 + n] 1 _ (Holds.new w .u8 (48 + n) 5)
    have HB := Lib.hid hB
    clear hB e
    generalize strOfNums [48 + n] = sx at *
    go_enter Try.func17, Try.ntmps17
    go_wp2
    go_ret
    exact ⟨rfl, HB.out⟩
  · have d0 : decide (n < 10) = false := decide_eq_false h
    have e : dig n = 87 + n := if_neg h
    have e2 : 97 + n - 10 = 87 + n := by omega
    rw [e]
    have hB := (Below.refl w.heap.size w).alloc (Nat.le_refl _) (.cells #[.int .u8 (87 + n)] 5)
    have f1 : (convert 22 9 (.slice (some ⟨w.heap.size, 0, none⟩) 1 1)).run Try.prog (w.alloc (.cells #[.int .u8 (87 + n)] 5)) = .ok (.string (strOfNums [87 + n])) (w.alloc (.cells #[.int .u8 (87 + n)] 5)) := conv_bytes Try.underlying22 Try.underlying5 Try.underlying9 (w.alloc (.cells #[.int .u8 (87 + n)] 5)) (some ⟨w.heap.size, 0, none⟩) [87 + n] 1 _ (Holds.new w .u8 (87 + n) 5)
    have HB := Lib.hid hB
    clear hB e
    generalize strOfNums [87 + n] = sx at *
    go_enter Try.func17, Try.ntmps17
    go_wp2
    go_ret
    exact ⟨rfl, HB.out⟩

set_option maxRecDepth 100000 in
set_option maxHeartbeats 6400000 in
theorem rhex_any (A : Option Addr) (xs : List Int) (c : Nat) (w : World) (hl : xs.length ≤ 100000) (ho : Octets xs) (hr : Holds w w.heap.size .u8 A xs) :
    Calls Try.prog 9 #[.slice A xs.length c] w fun e w' => e = .returned (.string (strOfNums (hexL xs))) ∧ Below w.heap.size w w' := by
  by_cases h0 : xs.length = 0
  · obtain rfl : xs = [] := List.eq_nil_of_length_eq_zero h0
    go_enter Try.func9, Try.ntmps9
    go_wp2
    go_ret
    exact ⟨rfl, Below.refl _ _⟩
  have d0 : ((xs.length : Int) == 0) = false := by rw [beq_eq_false_iff_ne]; omega
  have d1 : (xs.length == 0) = false := by rw [beq_eq_false_iff_ne]; omega
  have HR := Lib.hid hr
  have HO := Lib.hid ho
  clear hr ho
  go_enter Try.func9, Try.ntmps9
  go_wp2_with fail
  go_loopw [3, 10] (fun t s wr => ∃ j : Nat, j ≤ xs.length ∧ s = .int .i64 j ∧ t = .string (strOfNums ((xs.take j).flatMap twoD)) ∧ Below w.heap.size w wr) (fun _ s _ => xs.length - (intOf s).toNat)
  case atStart => exact ⟨0, Nat.zero_le _, rfl, rfl, Below.refl _ _⟩
  case round =>
    obtain ⟨j, hj, rfl, rfl, hB⟩ := hrel
    have HB := Lib.hid hB
    by_cases hlt : j < xs.length
    · have dj : decide ((j : Int) < (xs.length : Int)) = true := decide_eq_true (by omega)
      have dj2 : decide (j < xs.length) = true := decide_eq_true hlt
      obtain ⟨b, off, rfl, hb, hc⟩ := (HR.out.below hB) (by omega)
      have cx := hc j hlt
      have hx := HO.out (xs.getD j 0) (by rw [List.getD_eq_getElem?_getD, List.getElem?_eq_getElem hlt]; exact List.getElem_mem hlt)
      have HT := Lib.hid (show (xs.take (j + 1)).flatMap twoD = (xs.take j).flatMap twoD ++ [dig (xs.getD j 0 / 16)] ++ [dig (xs.getD j 0 % 16)] by
        rw [List.take_succ_eq_append_getElem hlt, List.flatMap_append, List.getD_eq_getElem?_getD, List.getElem?_eq_getElem hlt]
        simp [twoD])
      have hlen : ((xs.take j).flatMap twoD).length ≤ 200000 := by rw [flat_length, List.length_take]; omega
      clear hc hB
      generalize xs.getD j 0 = x at *
      have GD1 := Lib.hid (fun W => digit_any (x / 16) W (by omega))
      have GD2 := Lib.hid (fun W => digit_any (x % 16) W (by omega))
      have a1 := fun W => add_str (P := Try.prog) ((xs.take j).flatMap twoD) [dig (x / 16)] (by simp only [List.length_cons, List.length_nil]; omega) W
      have a2 := fun W => add_str (P := Try.prog) ((xs.take j).flatMap twoD ++ [dig (x / 16)]) [dig (x % 16)] (by rw [List.length_append]; simp only [List.length_cons, List.length_nil]; omega) W
      rw [← HT.out] at a2
      obtain ⟨t0, h0'⟩ : ∃ t, strOfNums ((xs.take j).flatMap twoD) = t := ⟨_, rfl⟩
      obtain ⟨t1, h1'⟩ : ∃ t, strOfNums [dig (x / 16)] = t := ⟨_, rfl⟩
      obtain ⟨t2, h2'⟩ : ∃ t, strOfNums ((xs.take j).flatMap twoD ++ [dig (x / 16)]) = t := ⟨_, rfl⟩
      obtain ⟨t3, h3'⟩ : ∃ t, strOfNums [dig (x % 16)] = t := ⟨_, rfl⟩
      obtain ⟨t4, h4'⟩ : ∃ t, strOfNums ((xs.take (j + 1)).flatMap twoD) = t := ⟨_, rfl⟩
      rw [h0', h1', h2'] at a1
      rw [h2', h3', h4'] at a2
      rw [h1'] at GD1
      rw [h3'] at GD2
      rw [h0']
      have HT4 := Lib.hid h4'
      have q1 : x.tdiv 16 = x / 16 := Int.tdiv_eq_ediv_of_nonneg (by omega)
      have q2 : x.tmod 16 = x % 16 := Int.tmod_eq_emod_of_nonneg (by omega)
      have q3 : IntKind.u8.wrap (x / 16) = x / 16 := by rw [IntKind.wrap_u8]; omega
      have q4 : IntKind.u8.wrap (x % 16) = x % 16 := by rw [IntKind.wrap_u8]; omega
      have HCX := Lib.hid (fun W (hW : Below wr.heap.size wr W) => (hW.cell (p := ⟨b, off + j, none⟩) (Nat.lt_of_lt_of_le hb HB.out.size)).trans cx)
      have hD : Below wr.heap.size wr wr.drew := (Below.refl _ _).drew
      have HD := Lib.hid hD
      have cx0 := HCX.out _ hD
      clear HT hlen h0' h1' h2' h3' h4' hD
      go_wp2_with fail
      go_region_law (first
        | (have _t := HB3; clear _t; go_simp; go_at_call 17; (with_reducible refine (GD2.out _).mono ?_); rintro e w4 ⟨rfl, hb4⟩; have HB4 := Lib.hid (HB3.out.trans (hb4.mono HB3.out.size)); clear hb4)
        | (go_simp; go_at_call 17; (with_reducible refine (GD1.out _).mono ?_); rintro e w3 ⟨rfl, hb3⟩; have cx3 := HCX.out _ (HD.out.trans (hb3.mono HD.out.size)); have HB3 := Lib.hid (HD.out.trans (hb3.mono HD.out.size)); clear hb3))
      all_goals
        go_wp2_with fail
        go_roundw
        case rel => exact ⟨j + 1, hlt, by go_num, by rw [HT4.out], HB.out.trans (HB4.out.mono HB.out.size)⟩
        case measure => simp [intOf] <;> omega
    · obtain rfl : j = xs.length := by omega
      have dj : decide ((xs.length : Int) < (xs.length : Int)) = false := decide_eq_false (by omega)
      have dj2 : decide (xs.length < xs.length) = false := decide_eq_false (by omega)
      have hxe : ¬ xs = [] := by intro he; rw [he] at h0; exact h0 rfl
      have HE := Lib.hid (show (xs.take xs.length).flatMap twoD = hexL xs by unfold hexL; rw [if_neg hxe, List.take_length])
      rw [HE.out]
      go_wp2_with fail
      go_ret
      exact ⟨rfl, HB.out⟩

set_option maxHeartbeats 1600000 in
theorem value_any (c : Int) (w : World) (hc : 0 ≤ c ∧ c ≤ 255) :
    Calls Try.prog 16 #[.int .u8 c] w fun e w' => e = .returned (.tuple #[.int .u8 (if valD c < 0 then 0 else valD c), .bool (decide (0 ≤ valD c))]) ∧ w = w' := by
  by_cases h0 : 48 ≤ c ∧ c ≤ 57
  · have e : valD c = c - 48 := if_pos h0
    have d0 : decide (48 ≤ c) = true := decide_eq_true h0.1
    have d1 : decide (c ≤ 57) = true := decide_eq_true h0.2
    rw [e, if_neg (by omega), decide_eq_true (show 0 ≤ c - 48 by omega)]
    clear e
    go_enter Try.func16, Try.ntmps16
    go_wp2
    go_ret2
    exact ⟨rfl, rfl⟩
  by_cases h1 : 97 ≤ c ∧ c ≤ 102
  · have e : valD c = c - 87 := by unfold valD; rw [if_neg h0, if_pos h1]
    have d0 : decide (48 ≤ c) = true := decide_eq_true (by omega)
    have d1 : decide (c ≤ 57) = false := decide_eq_false (by omega)
    have d2 : decide (97 ≤ c) = true := decide_eq_true h1.1
    have d3 : decide (c ≤ 102) = true := decide_eq_true h1.2
    have e2 : c - 97 + 10 = c - 87 := by omega
    rw [e, if_neg (by omega), decide_eq_true (show 0 ≤ c - 87 by omega), ← e2]
    clear e e2
    go_enter Try.func16, Try.ntmps16
    go_wp2
    go_ret2
    exact ⟨rfl, rfl⟩
  have e : valD c = -1 := by unfold valD; rw [if_neg h0, if_neg h1]
  rw [e, if_pos (by omega), decide_eq_false (show ¬ (0 : Int) ≤ -1 by omega)]
  clear e
  by_cases a1 : 48 ≤ c
  · have d0 : decide (48 ≤ c) = true := decide_eq_true a1
    have d1 : decide (c ≤ 57) = false := decide_eq_false (by omega)
    by_cases a2 : 97 ≤ c
    · have d2 : decide (97 ≤ c) = true := decide_eq_true a2
      have d3 : decide (c ≤ 102) = false := decide_eq_false (by omega)
      go_enter Try.func16, Try.ntmps16
      go_wp2
      go_ret2
      exact ⟨rfl, rfl⟩
    · have d2 : decide (97 ≤ c) = false := decide_eq_false a2
      go_enter Try.func16, Try.ntmps16
      go_wp2
      go_ret2
      exact ⟨rfl, rfl⟩
  · have d0 : decide (48 ≤ c) = false := decide_eq_false a1
    have d2 : decide (97 ≤ c) = false := decide_eq_false (by omega)
    go_enter Try.func16, Try.ntmps16
    go_wp2
    go_ret2
    exact ⟨rfl, rfl⟩
end Go.Proofs.Ytngeemfcmoahoaa.Tx
