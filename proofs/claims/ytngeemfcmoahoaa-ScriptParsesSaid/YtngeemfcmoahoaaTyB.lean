/-
  Layer 30, the document's words: a contract. Conditions: as each theorem names.
-/
import Derived.Test.YtngeemfcmoahoaaTyA
import Derived.Test.YtngeemfcmoahoaaVals
namespace Go.Proofs.Ytngeemfcmoahoaa.Ty
open Go.ChangeShapes Go.WideShapes Go.ChangeAt Go.RowKit Go.Proofs.Ytngeemfcmoahoaa.Kit Go.Proofs.Ytngeemfcmoahoaa.Tx

theorem elemStr : ValElem Try.prog 87 9 (.string ByteArray.empty) 16 := by
  refine ⟨?_, ?_, ?_, ?_⟩ <;> first | kernel_rfl | rfl | decide
/-- Texts, as cells. -/
def strV (cs : List Int) : Value := .string (strOfNums cs)
def WordsTo (s : ByteArray) (w : World) (e : Ending) (w' : World) : Prop :=
  ∃ v : Value, e = .returned v ∧ OwnV w' w.heap.size 9 v ((wordsL (numsOf s)).map strV) ∧ Below w.heap.size w w'

theorem nums_cut (s : ByteArray) (a b : Nat) : numsOf (s.extract a b) = ((numsOf s).drop a).take (b - a) := by
  unfold numsOf
  rw [← List.map_drop, ← List.map_take]
  congr 1
  rw [ByteArray.data_extract, Array.toList_extract]
theorem str_cut (s : ByteArray) (a b : Nat) : Value.string (s.extract a b) = strV (((numsOf s).drop a).take (b - a)) := by
  unfold strV
  rw [← nums_cut, str_nums]

set_option maxRecDepth 100000 in
set_option maxHeartbeats 6400000 in
theorem rwords_any (s : ByteArray) (w : World) (hs : s.size ≤ 1000000) : Calls Try.prog 46 #[.string s] w (WordsTo s w) := by
  have hnl := numsOf_length s
  have own0 := OwnV.empty (B := w.heap.size) w 9 (Nat.le_refl _)
  have hb0 : Below w.heap.size w (w.alloc (.cells #[] 9)) := (Below.refl _ _).alloc (Nat.le_refl _) _
  have HO0 := Lib.hid own0
  have HB0 := Lib.hid hb0
  have HNL := Lib.hid hnl
  clear own0 hb0 hnl
  go_enter Try.func46, Try.ntmps46
  go_wp2_with fail
  go_loopw [3, 4, 5] (fun v a b wr => ∃ (last i : Nat) (ws : List (List Int)), last ≤ i ∧ (i ≤ s.size + 1) ∧ a = .int .i64 last ∧ b = .int .i64 i ∧ OwnV wr w.heap.size 9 v (ws.map strV) ∧ ws.length ≤ i ∧ Below w.heap.size w wr ∧
    Hid ((i = s.size + 1 ∧ wordsL (numsOf s) = ws) ∨ (i ≤ s.size ∧ wordsL (numsOf s) = ws ++ wordsL ((numsOf s).drop last) ∧ ∀ j, last ≤ j → j < i → (numsOf s).getD j 0 ≠ 32))) (fun _ _ b _ => s.size + 1 - (intOf b).toNat)
  case atStart => exact ⟨0, 0, [], Nat.le_refl _, by omega, rfl, rfl, HO0.out, Nat.le_refl _, HB0.out, Lib.hid (.inr ⟨Nat.zero_le _, by simp, fun j h1 h2 => by omega⟩)⟩
  case round =>
    obtain ⟨last, i, ws, hli, hi, rfl, rfl, own, hwl, hB, HW⟩ := hrel
    clear HO0 HB0
    have hsz := hB.size
    have HB := Lib.hid hB
    clear hB
    by_cases hle : i ≤ s.size
    · have dj : decide ((i : Int) ≤ (s.size : Int)) = true := decide_eq_true (by omega)
      have dj2 : decide (i ≤ s.size) = true := decide_eq_true hle
      have hw : wordsL (numsOf s) = ws ++ wordsL ((numsOf s).drop last) ∧ ∀ j, last ≤ j → j < i → (numsOf s).getD j 0 ≠ 32 := by
        rcases HW.out with ⟨h, _⟩ | ⟨_, h1, h2⟩
        · omega
        · exact ⟨h1, h2⟩
      have HWW := Lib.hid hw
      clear hw HW
      obtain ⟨A0, c0, rfl, _, _⟩ := own.opened
      have hus : (ws.map strV).length + 1 ≤ 1099511627776 := by rw [List.length_map]; omega
      by_cases hsz2 : i = s.size
      · subst hsz2
        have f0 : ((s.size : Int) == (s.size : Int)) = true := beq_iff_eq.2 rfl
        have f1 : (s.size == s.size) = true := beq_iff_eq.2 rfl
        have HCUT := Lib.hid (show ((ws ++ [(numsOf s).drop last]).map strV) = ws.map strV ++ [strV (((numsOf s).drop last).take (s.size - last))] by
          rw [List.map_append, List.take_of_length_le (by rw [List.length_drop, HNL.out]; exact Nat.le_refl _)]; rfl)
        have HE := Lib.hid (show wordsL (numsOf s) = ws ++ [(numsOf s).drop last] by
          rw [HWW.out.1, wordsL_end _ (fun c hc => by
            obtain ⟨j, hj, rfl⟩ := List.getElem_of_mem hc
            rw [List.length_drop, HNL.out] at hj
            have := HWW.out.2 (last + j) (by omega) (by omega)
            rw [List.getElem_drop]
            rw [List.getD_eq_getElem?_getD, List.getElem?_eq_getElem (by rw [HNL.out]; omega)] at this
            exact this)])
        go_wp2_with (at_builtin; go_loud (refine wpList_append_val rfl _ _ _ rfl elemStr own rfl rfl rfl hus hsz ?_; intro v8 w8 own8 hg8 hb8; rw [str_cut, ← HCUT.out] at own8; have HO8 := Lib.hid own8; have HB8 := Lib.hid hb8; clear own8 hg8 hb8))
        go_roundw
        case rel => exact ⟨s.size + 1, s.size + 1, ws ++ [(numsOf s).drop last], Nat.le_refl _, Nat.le_refl _, by go_num, by go_num, HO8.out, by rw [List.length_append]; simp; omega, HB.out.trans HB8.out, Lib.hid (.inl ⟨rfl, HE.out⟩)⟩
        case measure => simp [intOf] <;> omega
      · have f0 : ((i : Int) == (s.size : Int)) = false := by rw [beq_eq_false_iff_ne]; omega
        have f1 : (i == s.size) = false := by rw [beq_eq_false_iff_ne]; exact hsz2
        have hlt : i < s.size := by omega
        have hc := numsOf_get s i hlt
        by_cases c0 : s[i].toNat = 32
        · have f2 : (((s[i].toNat : Nat) : Int) == 32) = true := by rw [beq_iff_eq]; omega
          have f3 : (s[i].toNat == 32) = true := by rw [beq_iff_eq]; exact c0
          have HCUT := Lib.hid (show ((ws ++ [((numsOf s).drop last).take (i - last)]).map strV) = ws.map strV ++ [strV (((numsOf s).drop last).take (i - last))] by rw [List.map_append]; rfl)
          have HE := Lib.hid (show wordsL (numsOf s) = (ws ++ [((numsOf s).drop last).take (i - last)]) ++ wordsL ((numsOf s).drop (i + 1)) by
            rw [HWW.out.1, List.append_assoc]
            congr 1
            have hil : i < (numsOf s).length := by rw [HNL.out]; exact hlt
            have e : (numsOf s).drop last = ((numsOf s).drop last).take (i - last) ++ 32 :: (numsOf s).drop (i + 1) := by
              have h1 := (List.take_append_drop (i - last) ((numsOf s).drop last)).symm
              rw [List.drop_drop, show last + (i - last) = i by omega, List.drop_eq_getElem_cons hil] at h1
              rw [show (numsOf s)[i] = 32 by
                rw [List.getD_eq_getElem?_getD, List.getElem?_eq_getElem hil] at hc
                simp at hc
                omega] at h1
              exact h1
            rw [List.singleton_append]
            conv => lhs; rw [e]
            exact wordsL_cut _ _ (fun c hc2 => by
              obtain ⟨j, hj, rfl⟩ := List.getElem_of_mem hc2
              rw [List.length_take, List.length_drop, HNL.out] at hj
              have := HWW.out.2 (last + j) (by omega) (by omega)
              rw [List.getElem_take, List.getElem_drop]
              rw [List.getD_eq_getElem?_getD, List.getElem?_eq_getElem (by rw [HNL.out]; omega)] at this
              exact this))
          clear hc c0
          go_wp2_with (at_builtin; go_loud (refine wpList_append_val rfl _ _ _ rfl elemStr own rfl rfl rfl hus hsz ?_; intro v8 w8 own8 hg8 hb8; rw [str_cut, ← HCUT.out] at own8; have HO8 := Lib.hid own8; have HB8 := Lib.hid hb8; clear own8 hg8 hb8))
          go_roundw
          case rel => exact ⟨i + 1, i + 1, ws ++ [((numsOf s).drop last).take (i - last)], Nat.le_refl _, by omega, by go_num, by go_num, HO8.out, by rw [List.length_append]; simp; omega, HB.out.trans HB8.out, Lib.hid (.inr ⟨by omega, HE.out, fun j h1 h2 => by omega⟩)⟩
          case measure => simp [intOf] <;> omega
        · have f2 : (((s[i].toNat : Nat) : Int) == 32) = false := by rw [beq_eq_false_iff_ne]; omega
          have f3 : (s[i].toNat == 32) = false := by rw [beq_eq_false_iff_ne]; exact c0
          have HC := Lib.hid (show (numsOf s).getD i 0 ≠ 32 by rw [hc]; omega)
          have HO := Lib.hid own
          clear hc c0 own
          go_wp2_with fail
          go_roundw
          case rel => exact ⟨last, i + 1, ws, by omega, by omega, rfl, by go_num, HO.out, by omega, HB.out, Lib.hid (.inr ⟨by omega, HWW.out.1, fun j h1 h2 => by
            by_cases hj : j = i
            · rw [hj]; exact HC.out
            · exact HWW.out.2 j h1 (by omega)⟩)⟩
          case measure => simp [intOf] <;> omega
    · have dj : decide ((i : Int) ≤ (s.size : Int)) = false := decide_eq_false (by omega)
      have dj2 : decide (i ≤ s.size) = false := decide_eq_false hle
      have HE := Lib.hid (show wordsL (numsOf s) = ws by
        rcases HW.out with ⟨_, h⟩ | ⟨h, _⟩
        · exact h
        · omega)
      go_wp2_with fail
      go_ret
      exact ⟨_, rfl, by rw [HE.out]; exact own, HB.out⟩
end Go.Proofs.Ytngeemfcmoahoaa.Ty
