/-
  Layer 30, a number among a line's words, as the program takes it: a contract. Conditions: as each theorem names.
-/
import Derived.Test.YtngeemfcmoahoaaTvA
import Derived.Test.YtngeemfcmoahoaaTyA
namespace Go.Proofs.Ytngeemfcmoahoaa.Tv
open Go.ChangeShapes Go.WideShapes Go.ChangeAt Go.RowKit Go.Proofs.Ytngeemfcmoahoaa.Kit Go.Proofs.Ytngeemfcmoahoaa.Tx Go.Proofs.Ytngeemfcmoahoaa.Ty

theorem valN_app : ∀ (cs l : List Int), cs.all isD = true → 0 ≤ valN l → valN l ≤ valN (l ++ cs)
  | [], l, _, _ => by simp
  | c :: cs, l, h, h0 => by
    rw [List.all_cons, Bool.and_eq_true] at h
    have hb : 48 ≤ c ∧ c ≤ 57 := by simpa [isD] using h.1
    have h1 : valN (l ++ [c]) = 10 * valN l + (c - 48) := valN_snoc l c
    have h2 := valN_app cs (l ++ [c]) h.2 (by omega)
    rw [show l ++ c :: cs = (l ++ [c]) ++ cs by simp]
    omega
/-- A prefix of digits that is too great already. -/
theorem numB_great {cs : List Int} {most : Int} {i : Nat} (ha : (cs.take i).all isD = true) (h : most < valN (cs.take i)) : numB cs most = false := by
  cases hb : cs.all isD with
  | false => exact numB_bad hb most
  | true =>
    have hd : (cs.drop i).all isD = true := by
      rw [List.all_eq_true] at hb ⊢
      exact fun c hc => hb c (List.mem_of_mem_drop hc)
    have h1 := valN_app (cs.drop i) (cs.take i) hd (valN_bd ha).1
    rw [List.take_append_drop] at h1
    unfold numB
    rw [decide_eq_false (show ¬ valN cs ≤ most by omega), Bool.and_false]
/-- Digits without a leading naught that are many are great. -/
theorem val_many {cs : List Int} (hd : cs.all isD = true) (hl : 10 < cs.length) (h0 : cs.getD 0 0 ≠ 48) : 2147483647 < valN cs := by
  have key : ∀ (m : Nat) (cs : List Int), cs.length = m + 1 → cs.all isD = true → cs.getD 0 0 ≠ 48 → (10 : Int) ^ m ≤ valN cs := by
    intro m
    induction m with
    | zero =>
      intro cs hl hd h0
      match cs, hl with
      | [c], _ =>
        have hb : 48 ≤ c ∧ c ≤ 57 := by simpa [isD] using hd
        have : c ≠ 48 := by simpa using h0
        simp [valN]
        omega
    | succ m ih =>
      intro cs hl hd h0
      rcases List.eq_nil_or_concat cs with rfl | ⟨l, c, rfl⟩
      · simp at hl
      · rw [List.concat_eq_append] at *
        rw [List.all_append, Bool.and_eq_true] at hd
        have hc : isD c = true := by simpa using hd.2
        have hb : 48 ≤ c ∧ c ≤ 57 := by simpa [isD] using hc
        have hll : l.length = m + 1 := by simpa using hl
        have hl0 : l.getD 0 0 ≠ 48 := by
          cases l with
          | nil => simp at hll
          | cons x xs => simpa using h0
        have := ih l hll hd.1 hl0
        rw [valN_snoc, Int.pow_succ]
        omega
  obtain ⟨m, hm⟩ : ∃ m, cs.length = m + 1 := ⟨cs.length - 1, by omega⟩
  have h1 := key m cs hm hd h0
  have h2 : (10 : Int) ^ 10 ≤ 10 ^ m := by
    have := Nat.pow_le_pow_right (n := 10) (by omega) (show 10 ≤ m by omega)
    exact_mod_cast this
  have e : (10 : Int) ^ 10 = 10000000000 := by decide
  omega
/-- What the program's own test comes to. -/
theorem numB_own {cs : List Int} {most : Int} (h0 : cs ≠ []) (h2 : ¬ (1 < cs.length ∧ cs.getD 0 0 = 48)) (h3 : cs.all isD = true) (hv : valN cs ≤ most) (hm : most ≤ 2147483647) : numB cs most = true := by
  have h1 : cs.length ≤ 10 := by
    rcases Nat.lt_or_ge 10 cs.length with h | h
    · have := val_many h3 h (fun h5 => h2 ⟨by omega, h5⟩)
      omega
    · exact h
  rw [numB_end h0 h1 h2 h3]
  exact decide_eq_true hv

def Took (w : World) (g t : Nat) (w' : World) : Prop := ∃ n, w' = ((w.setCell ⟨g, 8, none⟩ (.int .i64 ((t + 1 : Nat) : Int))).drew).drewN n
def thrownF : Ending := .panicked [{ v := .iface 72 (.agg #[]), recovered := false }]

set_option maxRecDepth 100000 in
set_option maxHeartbeats 12800000 in
/-- A number, the next word. -/
theorem number_any (g t : Nat) (ws : List (List Int)) (w : World) (most : Int) (h : WordsAt w g ws t) (ht : t < ws.length) (h7 : t < 7) (hm : 0 ≤ most ∧ most ≤ 2147483647) (hl : (ws.getD t []).length ≤ 1000000) (ho : Octets (ws.getD t [])) :
    Calls Try.prog 42 #[.pointer (some ⟨g, 0, none⟩), .int .i64 most] w fun e w' => e = (if numB (ws.getD t []) most = true then .returned (.int .i64 (valN (ws.getD t []))) else thrownF) ∧ Took w g t w' := by
  have GT := Lib.hid (take_ok g t ws w h ht h7)
  obtain ⟨cs, hcs⟩ : ∃ cs, ws.getD t [] = cs := ⟨_, rfl⟩
  rw [hcs] at GT hl ho ⊢
  obtain ⟨s, hs⟩ : ∃ s, strOfNums cs = s := ⟨_, rfl⟩
  have hns : numsOf s = cs := by rw [← hs]; exact nums_str ho
  rw [hs] at GT
  rw [← hns] at hl ⊢
  rw [numsOf_length] at hl
  have hnl := numsOf_length s
  clear hs hns hcs h ho
  obtain ⟨bn, hbn⟩ : ∃ bn, numB (numsOf s) most = bn := ⟨_, rfl⟩
  rw [hbn]
  have HBN := Lib.hid hbn
  clear hbn
  unfold thrownF
  by_cases h0 : s.size = 0
  · obtain rfl := str_nil h0
    obtain rfl : bn = false := by rw [← HBN.out]; exact numB_empty most
    have s0 : ((⟨#[]⟩ : ByteArray).toList == []) = true := by rw [ByteArray.toList_eq]; rfl
    clear hnl hl h0
    go_enter Try.func42, Try.ntmps42
    go_wp2_with fail
    refine GT.out.mono ?_
    rintro e w2 ⟨rfl, hT⟩
    have TK := Lib.hid (show Took w g t w2 from hT)
    clear hT
    go_wp2_with fail
    exact ⟨rfl, rfl, TK.out⟩
  obtain ⟨e0, e1⟩ := str_ne h0
  have hne : numsOf s ≠ [] := by intro h; rw [h] at hnl; simp at hnl; omega
  have hsz : 0 < s.size := by omega
  have hc0 := numsOf_get s 0 hsz
  have HNL := Lib.hid hnl
  have HNE := Lib.hid hne
  have HC0 := Lib.hid hc0
  clear hnl hne hc0
  by_cases hz : 1 < s.size ∧ s[0].toNat = 48
  · have d2 : decide ((1 : Int) < (s.size : Int)) = true := decide_eq_true (by omega)
    have d3 : decide (1 < s.size) = true := decide_eq_true hz.1
    have d4 : (((s[0].toNat : Nat) : Int) == 48) = true := by rw [beq_iff_eq]; omega
    obtain rfl : bn = false := by rw [← HBN.out]; exact numB_zero (cs := numsOf s) (by rw [HNL.out]; exact hz.1) (by rw [HC0.out]; omega) most
    clear hz
    go_enter Try.func42, Try.ntmps42
    go_wp2_with fail
    refine GT.out.mono ?_
    rintro e w2 ⟨rfl, hT⟩
    have TK := Lib.hid (show Took w g t w2 from hT)
    clear hT
    go_wp2_with fail
    exact ⟨rfl, rfl, TK.out⟩
  have HZ := Lib.hid (show ¬ (1 < (numsOf s).length ∧ (numsOf s).getD 0 0 = 48) by rw [HNL.out, HC0.out]; omega)
  have rest : ∀ (d2 : decide ((1 : Int) < (s.size : Int)) = true ∧ decide (1 < s.size) = true ∧ (((s[0].toNat : Nat) : Int) == 48) = false ∨ decide ((1 : Int) < (s.size : Int)) = false ∧ decide (1 < s.size) = false), Calls Try.prog 42 #[.pointer (some ⟨g, 0, none⟩), .int .i64 most] w fun e w' => e = (if bn = true then .returned (.int .i64 (valN (numsOf s))) else .panicked [{ v := .iface 72 (.agg #[]), recovered := false }]) ∧ Took w g t w' := by
    intro dd
    clear hz h0
    rcases dd with ⟨d2, d3, d4⟩ | ⟨d2, d3⟩
    all_goals
      go_enter Try.func42, Try.ntmps42
      go_wp2_with fail
      refine GT.out.mono ?_
      rintro e w2 ⟨rfl, hT⟩
      have TK := Lib.hid (show Took w g t w2 from hT)
      clear hT
      go_wp2_with fail
      go_loop [6, 26] (fun n u => ∃ i : Nat, i ≤ s.size ∧ u = .int .i64 i ∧ n = .int .i64 (valN ((numsOf s).take i)) ∧ Hid (((numsOf s).take i).all isD = true ∧ valN ((numsOf s).take i) ≤ most)) (fun _ u => s.size - (intOf u).toNat)
      case atStart => exact ⟨0, Nat.zero_le _, rfl, rfl, Lib.hid ⟨rfl, hm.1⟩⟩
      case round =>
        obtain ⟨i, hi, rfl, rfl, HA⟩ := hrel
        have hvb0 := (valN_bd HA.out.1).1
        have hvb1 := HA.out.2
        by_cases hlt : i < s.size
        · have dj : decide ((i : Int) < (s.size : Int)) = true := decide_eq_true (by omega)
          have dj2 : decide (i < s.size) = true := decide_eq_true hlt
          have hc := numsOf_get s i hlt
          have hc8 := s[i].toNat_lt
          by_cases c0 : s[i].toNat < 48
          · have f0 : decide (((s[i].toNat : Nat) : Int) < 48) = true := decide_eq_true (by omega)
            have f1 : decide (s[i].toNat < 48) = true := decide_eq_true c0
            obtain rfl : bn = false := by rw [← HBN.out]; exact numB_bad (all_bad (cs := numsOf s) (i := i) (by rw [HNL.out]; exact hlt) (by rw [hc]; unfold isD; rw [decide_eq_false (show ¬ (48 : Int) ≤ _ by omega)]; rfl)) most
            clear hc
            go_wp2_with fail
            exact ⟨rfl, rfl, TK.out⟩
          have f0 : decide (((s[i].toNat : Nat) : Int) < 48) = false := decide_eq_false (by omega)
          have f1 : decide (s[i].toNat < 48) = false := decide_eq_false c0
          by_cases c1 : 57 < s[i].toNat
          · have f2 : decide ((57 : Int) < ((s[i].toNat : Nat) : Int)) = true := decide_eq_true (by omega)
            have f3 : decide (57 < s[i].toNat) = true := decide_eq_true c1
            obtain rfl : bn = false := by rw [← HBN.out]; exact numB_bad (all_bad (cs := numsOf s) (i := i) (by rw [HNL.out]; exact hlt) (by rw [hc]; unfold isD; rw [decide_eq_false (show ¬ (((s[i].toNat : Nat) : Int) ≤ 57) by omega)]; simp)) most
            clear hc
            go_wp2_with fail
            exact ⟨rfl, rfl, TK.out⟩
          have f2 : decide ((57 : Int) < ((s[i].toNat : Nat) : Int)) = false := decide_eq_false (by omega)
          have f3 : decide (57 < s[i].toNat) = false := decide_eq_false c1
          have hil : i < (numsOf s).length := by rw [HNL.out]; exact hlt
          have hge : (numsOf s)[i] = ((s[i].toNat : Nat) : Int) := by rw [← hc, List.getD_eq_getElem?_getD, List.getElem?_eq_getElem hil]; rfl
          have htk : (numsOf s).take (i + 1) = (numsOf s).take i ++ [((s[i].toNat : Nat) : Int)] := by rw [List.take_succ_eq_append_getElem hil, hge]
          have HV := Lib.hid (show valN ((numsOf s).take (i + 1)) = 10 * valN ((numsOf s).take i) + (((s[i].toNat : Nat) : Int) - 48) by rw [htk, valN_snoc])
          have HA2 := Lib.hid (show ((numsOf s).take (i + 1)).all isD = true by
            rw [htk, List.all_append, HA.out.1]
            simp [isD]
            omega)
          by_cases c2 : most < 10 * valN ((numsOf s).take i) + (((s[i].toNat : Nat) : Int) - 48)
          · obtain rfl : bn = false := by rw [← HBN.out]; exact numB_great HA2.out (by rw [HV.out]; exact c2)
            generalize valN ((numsOf s).take i) = V at *
            clear hc htk hge
            go_wp2_with fail
            exact ⟨rfl, rfl, TK.out⟩
          · generalize valN ((numsOf s).take i) = V at *
            clear hc htk hge
            go_wp2_with fail
            go_round
            case rel => exact ⟨i + 1, hlt, by go_num, by rw [HV.out], Lib.hid ⟨HA2.out, by rw [HV.out]; omega⟩⟩
            case measure => simp [intOf] <;> omega
        · obtain rfl : i = s.size := by omega
          have dj : decide ((s.size : Int) < (s.size : Int)) = false := decide_eq_false (by omega)
          have dj2 : decide (s.size < s.size) = false := decide_eq_false (by omega)
          have HT := Lib.hid (show (numsOf s).take s.size = numsOf s by rw [List.take_of_length_le (by rw [HNL.out]; exact Nat.le_refl _)])
          obtain rfl : bn = true := by
            rw [← HBN.out]
            have := HA.out
            rw [HT.out] at this
            exact numB_own HNE.out HZ.out this.1 this.2 hm.2
          rw [HT.out]
          go_wp2_with fail
          go_ret
          exact ⟨rfl, TK.out⟩
  by_cases a : 1 < s.size
  · exact rest (.inl ⟨decide_eq_true (by omega), decide_eq_true a, by rw [beq_eq_false_iff_ne]; omega⟩)
  · exact rest (.inr ⟨decide_eq_false (by omega), decide_eq_false a⟩)
end Go.Proofs.Ytngeemfcmoahoaa.Tv
