/-
  Layer 30, the line of an act: plain: it is read as that act, and back. No program. No conditions beyond what each theorem names.
-/
import Derived.Test.YtngeemfcmoahoaaTzB
namespace Go.Proofs.Ytngeemfcmoahoaa.Tz
open Go.Proofs
open Go.ChangeShapes Go.WideShapes Go.ChangeAt Go.RowKit Go.Proofs.Ytngeemfcmoahoaa.Kit Go.Proofs.Ytngeemfcmoahoaa.Tx Go.Proofs.Ytngeemfcmoahoaa.Ty

theorem decL_eq (n : Nat) : decL n = if n < 10 then [48 + (n : Int)] else decL (n / 10) ++ [48 + ((n % 10 : Nat) : Int)] := by
  unfold decL
  rw [Lib.decDigits]
  by_cases h : n < 10
  · rw [dif_pos h, if_pos h]
    have : (48 + n) % 256 = 48 + n := Nat.mod_eq_of_lt (by omega)
    simp [this]
  · rw [dif_neg h, if_neg h, List.map_append]
    have : (48 + n % 10) % 256 = 48 + n % 10 := Nat.mod_eq_of_lt (by omega)
    simp [this]
theorem decL_digits (n : Nat) : ∀ c ∈ decL n, 48 ≤ c ∧ c ≤ 57 := by
  induction n using Nat.strongRecOn with
  | _ n ih =>
    intro c hc
    rw [decL_eq] at hc
    by_cases h : n < 10
    · rw [if_pos h] at hc
      obtain rfl : c = 48 + (n : Int) := by simpa using hc
      omega
    · rw [if_neg h] at hc
      rcases List.mem_append.1 hc with hc | hc
      · exact ih _ (by omega) c hc
      · obtain rfl : c = 48 + ((n % 10 : Nat) : Int) := by simpa using hc
        omega
theorem decL_octets (n : Nat) : Octets (decL n) := fun c hc => by have := decL_digits n c hc; omega
theorem decL_all (n : Nat) : (decL n).all isD = true := by
  rw [List.all_eq_true]
  intro c hc
  have := decL_digits n c hc
  simp [isD, this]
theorem decL_ne (n : Nat) : decL n ≠ [] := by
  rw [decL_eq]
  split <;> simp
theorem decL_val (n : Nat) : valN (decL n) = n := by
  induction n using Nat.strongRecOn with
  | _ n ih =>
    rw [decL_eq]
    by_cases h : n < 10
    · rw [if_pos h]
      simp [valN]
      omega
    · rw [if_neg h, valN_snoc, ih _ (by omega)]
      omega
theorem decL_short : ∀ (k n : Nat), n < 10 ^ (k + 1) → (decL n).length ≤ k + 1
  | 0, n, h => by
    rw [decL_eq, if_pos (by simpa using h)]
    simp
  | k + 1, n, h => by
    rw [decL_eq]
    by_cases h9 : n < 10
    · rw [if_pos h9]; simp
    · rw [if_neg h9, List.length_append]
      have := decL_short k (n / 10) (by rw [Nat.pow_succ] at h; omega)
      simp only [List.length_cons, List.length_nil]
      omega
theorem decL_lead : ∀ (n : Nat), 0 < n → (decL n).getD 0 0 ≠ 48 := by
  intro n
  induction n using Nat.strongRecOn with
  | _ n ih =>
    intro h0
    rw [decL_eq]
    by_cases h : n < 10
    · rw [if_pos h]
      simp
      omega
    · rw [if_neg h]
      have h1 := ih (n / 10) (by omega) (by omega)
      have h2 := decL_ne (n / 10)
      cases hq : decL (n / 10) with
      | nil => exact absurd hq h2
      | cons x xs =>
        rw [hq] at h1
        simpa using h1
theorem numB_dec {n : Nat} {most : Int} (h : (n : Int) ≤ most) (hm : most ≤ 2147483647) : numB (decL n) most = true := by
  rw [numB_end (decL_ne n) (decL_short 9 n (by omega)) ?_ (decL_all n), decL_val]
  · exact decide_eq_true h
  · rintro ⟨h1, h2⟩
    by_cases h0 : n = 0
    · subst h0
      rw [decL_eq] at h1
      simp at h1
    · exact decL_lead n (by omega) h2
theorem val_lead : ∀ (m : Nat) (cs : List Int), cs.length = m → cs ≠ [] → cs.all isD = true → cs.getD 0 0 ≠ 48 → 0 < valN cs ∧ decL (valN cs).toNat = cs
  | 0, cs, h, hne, _, _ => absurd (List.eq_nil_of_length_eq_zero h) hne
  | m + 1, cs, h, _, hd, h0 => by
    rcases List.eq_nil_or_concat cs with rfl | ⟨l, c, rfl⟩
    · simp at h
    · rw [List.concat_eq_append] at *
      rw [List.all_append, Bool.and_eq_true] at hd
      have hc : isD c = true := by simpa using hd.2
      have hb : 48 ≤ c ∧ c ≤ 57 := by simpa [isD] using hc
      by_cases hl : l = []
      · subst hl
        have hc0 : c ≠ 48 := by simpa using h0
        have hv : valN ([] ++ [c]) = c - 48 := by simp [valN]
        rw [hv]
        refine ⟨by omega, ?_⟩
        rw [decL_eq, if_pos (by omega)]
        simp
        omega
      · have hl0 : l.getD 0 0 ≠ 48 := by
          cases l with
          | nil => exact absurd rfl hl
          | cons x xs => simpa using h0
        obtain ⟨h1, h2⟩ := val_lead m l (by simpa using h) hl hd.1 hl0
        rw [valN_snoc]
        refine ⟨by omega, ?_⟩
        rw [decL_eq, if_neg (by omega), show (10 * valN l + (c - 48)).toNat / 10 = (valN l).toNat by omega, h2]
        congr 1
        simp
        omega
theorem dec_val {cs : List Int} {most : Int} (h : numB cs most = true) : decL (valN cs).toNat = cs := by
  unfold numB at h
  simp only [Bool.and_eq_true, Bool.not_eq_true', Bool.and_eq_false_iff, decide_eq_false_iff_not, beq_eq_false_iff_ne, decide_eq_true_eq] at h
  obtain ⟨⟨⟨⟨h1, _⟩, h3⟩, h4⟩, _⟩ := h
  have hne : cs ≠ [] := by intro he; rw [he] at h1; simp at h1
  by_cases h0 : cs.getD 0 0 = 48
  · match cs, hne with
    | [c], _ =>
      have : c = 48 := by simpa using h0
      subst this
      decide +kernel
    | c :: d :: r, _ =>
      rcases h3 with h3 | h3
      · simp at h3
      · exact absurd h0 h3
  · exact (val_lead _ cs rfl hne h4 h0).2
theorem dig_val {c : Int} (h : ¬ valD c < 0) : dig (valD c) = c := by
  unfold valD dig at *
  split at h
  · split <;> omega
  · split at h
    · split <;> omega
    · omega
theorem flat_pairs : ∀ {cs l : List Int}, pairs cs = some l → l.flatMap twoD = cs
  | [], l, h => by rw [pairs] at h; injection h with h; subst h; rfl
  | [_], l, h => by rw [pairs] at h; cases h
  | a :: b :: r, l, h => by
    rw [pairs] at h
    split at h
    · cases h
    · next hn =>
      cases hr : pairs r with
      | none => rw [hr] at h; cases h
      | some q =>
        rw [hr] at h
        injection h with h
        subst h
        have h1 := valD_bd a
        have h2 := valD_bd b
        rw [List.flatMap_cons, flat_pairs hr]
        unfold twoD
        rw [show (16 * valD a + valD b) / 16 = valD a by omega, show (16 * valD a + valD b) % 16 = valD b by omega, dig_val (by omega), dig_val (by omega)]
        rfl
theorem hex_un {cs : List Int} (h : unB cs = true) : hexL (unL cs) = cs := by
  unfold unB at h
  unfold unL
  cases hq : unhexL cs with
  | none => rw [hq] at h; cases h
  | some l =>
    show hexL l = cs
    unfold unhexL at hq
    split at hq
    · next he => injection hq with hq; subst hq; rw [he]; rfl
    · split at hq
      · cases hq
      · next hne =>
        have := flat_pairs hq
        unfold hexL
        rw [if_neg, this]
        intro hl
        rw [hl] at this
        exact hne this.symm
theorem un_hex {xs : List Int} (h : Octets xs) : unB (hexL xs) = true ∧ unL (hexL xs) = xs := by
  unfold unB unL
  rw [unhex_hex h]
  exact ⟨rfl, rfl⟩
theorem un_octets {cs : List Int} (h : unB cs = true) : Octets (unL cs) := by
  unfold unB at h
  unfold unL
  cases hq : unhexL cs with
  | none => rw [hq] at h; cases h
  | some l =>
    show Octets l
    unfold unhexL at hq
    split at hq
    · injection hq with hq; subst hq; intro x hx; simp at hx
    · split at hq
      · cases hq
      · exact pairs_octets hq
theorem un_len (cs : List Int) : (unL cs).length ≤ cs.length := by
  unfold unL
  cases hq : unhexL cs with
  | none => simp
  | some l =>
    show l.length ≤ _
    unfold unhexL at hq
    split at hq
    · injection hq with hq; subst hq; simp
    · split at hq
      · cases hq
      · have h1 := flat_pairs hq
        have h2 := flat_length l
        rw [h1] at h2
        omega
theorem dec_blank (n : Nat) : ∀ c ∈ decL n, c ≠ 32 := fun c hc => by have := decL_digits n c hc; omega
theorem hex_blank {xs : List Int} (h : Octets xs) : ∀ c ∈ hexL xs, c ≠ 32 := by
  intro c hc
  unfold hexL at hc
  split at hc
  · obtain rfl : c = 46 := by simpa using hc
    omega
  · obtain ⟨y, hy, hxy⟩ := List.mem_flatMap.1 hc
    have hb := h y hy
    have h1 := dig_bd (n := y / 16) (by omega)
    have h2 := dig_bd (n := y % 16) (by omega)
    simp [twoD] at hxy
    omega
theorem word_blank (k : Int) : ∀ c ∈ wordP k, c ≠ 32 := by
  unfold wordP
  repeat' split
  all_goals decide
theorem words_join : ∀ ws : List (List Int), ws ≠ [] → (∀ w ∈ ws, ∀ c ∈ w, c ≠ 32) → wordsL (joinW ws) = ws
  | [], h, _ => absurd rfl h
  | [w], _, h => wordsL_end w (h w (by simp))
  | w :: v :: ws, _, h => by
    rw [joinW, wordsL_cut w _ (h w (by simp)), words_join (v :: ws) (by simp) fun x hx => h x (by simp [hx])]
theorem octets_join : ∀ ws : List (List Int), (∀ w ∈ ws, Octets w) → Octets (joinW ws)
  | [], _ => fun x hx => by simp [joinW] at hx
  | [w], h => h w (by simp)
  | w :: v :: ws, h => fun x hx => by
    rw [joinW] at hx
    rcases List.mem_append.1 hx with hx | hx
    · exact h w (by simp) x hx
    · rcases List.mem_cons.1 hx with rfl | hx
      · decide
      · exact octets_join (v :: ws) (fun y hy => h y (by simp [hy])) x hx

/-- The line of an act is read as that act. -/
theorem line_act (a : ActV) (l : List Int) (hk : 0 ≤ a.k ∧ a.k ≤ 255) (hm : 0 ≤ a.m ∧ a.m ≤ 255) (hv : 0 ≤ a.v) (ho : Octets a.d) (h : lineP a = some l) : actL l = .ok a ∧ Octets l := by
  unfold lineP at h
  split at h
  · cases h
  next hn =>
  split at h
  case isFalse => cases h
  next hb =>
  injection h with h
  subst h
  rw [not_or] at hn
  obtain ⟨hw, hin⟩ := hn
  rw [Bool.not_eq_false] at hin
  unfold inA at hin
  simp only [Bool.and_eq_true, decide_eq_true_eq] at hin
  obtain ⟨⟨⟨⟨hp0, hp1⟩, hn0⟩, hn1⟩, hv1⟩ := hin
  obtain ⟨k, m, p, n, v, d⟩ := a
  simp only at *
  obtain ⟨m, rfl⟩ : ∃ m' : Nat, m = m' := ⟨m.toNat, by omega⟩
  obtain ⟨p, rfl⟩ : ∃ m' : Nat, p = m' := ⟨p.toNat, by omega⟩
  obtain ⟨n, rfl⟩ : ∃ m' : Nat, n = m' := ⟨n.toNat, by omega⟩
  obtain ⟨v, rfl⟩ : ∃ m' : Nat, v = m' := ⟨v.toNat, by omega⟩
  by_cases h1 : k = 1
  · subst h1
    have hs : sumP ⟨1, m, p, n, v, d⟩ = (joinW [[98, 117, 105, 108, 100], decL m, decL v, hexL d], ⟨1, 0, (p : Int), (n : Int), 0, []⟩) := by simp [sumP, lettersP, wordP, stepP, textA, clearA, joinW]
    rw [hs] at hb ⊢
    have hz : bareA ⟨1, 0, (p : Int), (n : Int), 0, []⟩ = true := hb
    unfold bareA at hz
    simp only [Bool.and_eq_true, decide_eq_true_eq] at hz
    obtain rfl : p = 0 := by omega
    obtain rfl : n = 0 := by omega
    have hj := words_join [[98, 117, 105, 108, 100], decL m, decL v, hexL d] (by simp) (by
      intro w hw
      simp only [List.mem_cons, List.not_mem_nil, or_false] at hw
      rcases hw with rfl | rfl | rfl | rfl
      · decide
      · exact dec_blank _
      · exact dec_blank _
      · exact hex_blank ho)
    refine ⟨?_, ?_⟩
    · unfold actL
      rw [hj]
      have hf : formL [98, 117, 105, 108, 100] = some ([98, 110, 116], 1) := by decide
      rw [List.getD_cons_zero, hf]
      have g0 := numB_dec (n := m) (most := 255) (by omega) (by omega)
      have g1 := numB_dec (n := v) (most := 2147483647) (by omega) (by omega)
      have g2 := un_hex ho
      simp [fieldsL, stepF, actOf, decL_val, g0, g1, g2.1, g2.2]
    · refine octets_join _ ?_
      intro w hw
      simp only [List.mem_cons, List.not_mem_nil, or_false] at hw
      rcases hw with rfl | rfl | rfl | rfl
      · unfold Octets
        decide
      · exact decL_octets _
      · exact decL_octets _
      · exact hexL_octets ho
  by_cases h2 : k = 2
  · subst h2
    have hs : sumP ⟨2, m, p, n, v, d⟩ = (joinW [[102, 101, 101, 100], decL p, decL n], ⟨2, (m : Int), 0, 0, (v : Int), d⟩) := by simp [sumP, lettersP, wordP, stepP, textA, clearA, joinW]
    rw [hs] at hb ⊢
    have hz : bareA ⟨2, (m : Int), 0, 0, (v : Int), d⟩ = true := hb
    unfold bareA at hz
    simp only [Bool.and_eq_true, decide_eq_true_eq] at hz
    obtain rfl : m = 0 := by omega
    obtain rfl : v = 0 := by omega
    obtain rfl : d = [] := List.eq_nil_of_length_eq_zero (by omega)
    have hj := words_join [[102, 101, 101, 100], decL p, decL n] (by simp) (by
      intro w hw
      simp only [List.mem_cons, List.not_mem_nil, or_false] at hw
      rcases hw with rfl | rfl | rfl
      · decide
      · exact dec_blank _
      · exact dec_blank _)
    refine ⟨?_, ?_⟩
    · unfold actL
      rw [hj]
      have hf : formL [102, 101, 101, 100] = some ([110, 110], 2) := by decide
      rw [List.getD_cons_zero, hf]
      have g0 := numB_dec (n := p) (most := 2147483647) (by omega) (by omega)
      have g1 := numB_dec (n := n) (most := 2147483647) (by omega) (by omega)
      simp [fieldsL, stepF, actOf, decL_val, g0, g1]
    · refine octets_join _ ?_
      intro w hw
      simp only [List.mem_cons, List.not_mem_nil, or_false] at hw
      rcases hw with rfl | rfl | rfl
      · unfold Octets
        decide
      · exact decL_octets _
      · exact decL_octets _
  by_cases h3 : k = 3
  · subst h3
    have hs : sumP ⟨3, m, p, n, v, d⟩ = (joinW [[98, 101, 103, 105, 110]], ⟨3, (m : Int), (p : Int), (n : Int), (v : Int), d⟩) := by simp [sumP, lettersP, wordP, stepP, textA, clearA, joinW]
    rw [hs] at hb ⊢
    have hz : bareA ⟨3, (m : Int), (p : Int), (n : Int), (v : Int), d⟩ = true := hb
    unfold bareA at hz
    simp only [Bool.and_eq_true, decide_eq_true_eq] at hz
    obtain rfl : m = 0 := by omega
    obtain rfl : v = 0 := by omega
    obtain rfl : d = [] := List.eq_nil_of_length_eq_zero (by omega)
    obtain rfl : p = 0 := by omega
    obtain rfl : n = 0 := by omega
    have hj := words_join [[98, 101, 103, 105, 110]] (by simp) (by
      intro w hw
      simp only [List.mem_cons, List.not_mem_nil, or_false] at hw
      subst hw
      decide)
    refine ⟨?_, ?_⟩
    · unfold actL
      rw [hj]
      have hf : formL [98, 101, 103, 105, 110] = some ([], 3) := by decide
      rw [List.getD_cons_zero, hf]
      simp [fieldsL, stepF, actOf, decL_val]
    · refine octets_join _ ?_
      intro w hw
      simp only [List.mem_cons, List.not_mem_nil, or_false] at hw
      subst hw
      unfold Octets
      decide
  by_cases h4 : k = 4
  · subst h4
    have hs : sumP ⟨4, m, p, n, v, d⟩ = (joinW [[99, 111, 109, 109, 105, 116]], ⟨4, (m : Int), (p : Int), (n : Int), (v : Int), d⟩) := by simp [sumP, lettersP, wordP, stepP, textA, clearA, joinW]
    rw [hs] at hb ⊢
    have hz : bareA ⟨4, (m : Int), (p : Int), (n : Int), (v : Int), d⟩ = true := hb
    unfold bareA at hz
    simp only [Bool.and_eq_true, decide_eq_true_eq] at hz
    obtain rfl : m = 0 := by omega
    obtain rfl : v = 0 := by omega
    obtain rfl : d = [] := List.eq_nil_of_length_eq_zero (by omega)
    obtain rfl : p = 0 := by omega
    obtain rfl : n = 0 := by omega
    have hj := words_join [[99, 111, 109, 109, 105, 116]] (by simp) (by
      intro w hw
      simp only [List.mem_cons, List.not_mem_nil, or_false] at hw
      subst hw
      decide)
    refine ⟨?_, ?_⟩
    · unfold actL
      rw [hj]
      have hf : formL [99, 111, 109, 109, 105, 116] = some ([], 4) := by decide
      rw [List.getD_cons_zero, hf]
      simp [fieldsL, stepF, actOf, decL_val]
    · refine octets_join _ ?_
      intro w hw
      simp only [List.mem_cons, List.not_mem_nil, or_false] at hw
      subst hw
      unfold Octets
      decide
  by_cases h5 : k = 5
  · subst h5
    have hs : sumP ⟨5, m, p, n, v, d⟩ = (joinW [[99, 97, 110, 99, 101, 108]], ⟨5, (m : Int), (p : Int), (n : Int), (v : Int), d⟩) := by simp [sumP, lettersP, wordP, stepP, textA, clearA, joinW]
    rw [hs] at hb ⊢
    have hz : bareA ⟨5, (m : Int), (p : Int), (n : Int), (v : Int), d⟩ = true := hb
    unfold bareA at hz
    simp only [Bool.and_eq_true, decide_eq_true_eq] at hz
    obtain rfl : m = 0 := by omega
    obtain rfl : v = 0 := by omega
    obtain rfl : d = [] := List.eq_nil_of_length_eq_zero (by omega)
    obtain rfl : p = 0 := by omega
    obtain rfl : n = 0 := by omega
    have hj := words_join [[99, 97, 110, 99, 101, 108]] (by simp) (by
      intro w hw
      simp only [List.mem_cons, List.not_mem_nil, or_false] at hw
      subst hw
      decide)
    refine ⟨?_, ?_⟩
    · unfold actL
      rw [hj]
      have hf : formL [99, 97, 110, 99, 101, 108] = some ([], 5) := by decide
      rw [List.getD_cons_zero, hf]
      simp [fieldsL, stepF, actOf, decL_val]
    · refine octets_join _ ?_
      intro w hw
      simp only [List.mem_cons, List.not_mem_nil, or_false] at hw
      subst hw
      unfold Octets
      decide
  by_cases h6 : k = 6
  · subst h6
    have hs : sumP ⟨6, m, p, n, v, d⟩ = (joinW [[102, 117, 115, 101], decL n], ⟨6, (m : Int), (p : Int), 0, (v : Int), d⟩) := by simp [sumP, lettersP, wordP, stepP, textA, clearA, joinW]
    rw [hs] at hb ⊢
    have hz : bareA ⟨6, (m : Int), (p : Int), 0, (v : Int), d⟩ = true := hb
    unfold bareA at hz
    simp only [Bool.and_eq_true, decide_eq_true_eq] at hz
    obtain rfl : m = 0 := by omega
    obtain rfl : v = 0 := by omega
    obtain rfl : d = [] := List.eq_nil_of_length_eq_zero (by omega)
    obtain rfl : p = 0 := by omega
    have hj := words_join [[102, 117, 115, 101], decL n] (by simp) (by
      intro w hw
      simp only [List.mem_cons, List.not_mem_nil, or_false] at hw
      rcases hw with rfl | rfl
      · decide
      · exact dec_blank _)
    refine ⟨?_, ?_⟩
    · unfold actL
      rw [hj]
      have hf : formL [102, 117, 115, 101] = some ([110], 6) := by decide
      rw [List.getD_cons_zero, hf]
      have g0 := numB_dec (n := n) (most := 2147483647) (by omega) (by omega)
      simp [fieldsL, stepF, actOf, decL_val, g0]
    · refine octets_join _ ?_
      intro w hw
      simp only [List.mem_cons, List.not_mem_nil, or_false] at hw
      rcases hw with rfl | rfl
      · unfold Octets
        decide
      · exact decL_octets _
  by_cases h7 : k = 7
  · subst h7
    have hs : sumP ⟨7, m, p, n, v, d⟩ = (joinW [[102, 97, 108, 108], hexL d], ⟨7, (m : Int), (p : Int), (n : Int), (v : Int), []⟩) := by simp [sumP, lettersP, wordP, stepP, textA, clearA, joinW]
    rw [hs] at hb ⊢
    have hz : bareA ⟨7, (m : Int), (p : Int), (n : Int), (v : Int), []⟩ = true := hb
    unfold bareA at hz
    simp only [Bool.and_eq_true, decide_eq_true_eq] at hz
    obtain rfl : m = 0 := by omega
    obtain rfl : v = 0 := by omega
    obtain rfl : p = 0 := by omega
    obtain rfl : n = 0 := by omega
    have hj := words_join [[102, 97, 108, 108], hexL d] (by simp) (by
      intro w hw
      simp only [List.mem_cons, List.not_mem_nil, or_false] at hw
      rcases hw with rfl | rfl
      · decide
      · exact hex_blank ho)
    refine ⟨?_, ?_⟩
    · unfold actL
      rw [hj]
      have hf : formL [102, 97, 108, 108] = some ([116], 7) := by decide
      rw [List.getD_cons_zero, hf]
      have g0 := un_hex ho
      simp [fieldsL, stepF, actOf, decL_val, g0.1, g0.2]
    · refine octets_join _ ?_
      intro w hw
      simp only [List.mem_cons, List.not_mem_nil, or_false] at hw
      rcases hw with rfl | rfl
      · unfold Octets
        decide
      · exact hexL_octets ho
  by_cases h8 : k = 8
  · subst h8
    have hs : sumP ⟨8, m, p, n, v, d⟩ = (joinW [[115, 112, 111, 105, 108], decL p, decL n, decL m], ⟨8, 0, 0, 0, (v : Int), d⟩) := by simp [sumP, lettersP, wordP, stepP, textA, clearA, joinW]
    rw [hs] at hb ⊢
    have hz : bareA ⟨8, 0, 0, 0, (v : Int), d⟩ = true := hb
    unfold bareA at hz
    simp only [Bool.and_eq_true, decide_eq_true_eq] at hz
    obtain rfl : v = 0 := by omega
    obtain rfl : d = [] := List.eq_nil_of_length_eq_zero (by omega)
    have hj := words_join [[115, 112, 111, 105, 108], decL p, decL n, decL m] (by simp) (by
      intro w hw
      simp only [List.mem_cons, List.not_mem_nil, or_false] at hw
      rcases hw with rfl | rfl | rfl | rfl
      · decide
      · exact dec_blank _
      · exact dec_blank _
      · exact dec_blank _)
    refine ⟨?_, ?_⟩
    · unfold actL
      rw [hj]
      have hf : formL [115, 112, 111, 105, 108] = some ([110, 110, 98], 8) := by decide
      rw [List.getD_cons_zero, hf]
      have g0 := numB_dec (n := p) (most := 2147483647) (by omega) (by omega)
      have g1 := numB_dec (n := n) (most := 2147483647) (by omega) (by omega)
      have g2 := numB_dec (n := m) (most := 255) (by omega) (by omega)
      simp [fieldsL, stepF, actOf, decL_val, g0, g1, g2]
    · refine octets_join _ ?_
      intro w hw
      simp only [List.mem_cons, List.not_mem_nil, or_false] at hw
      rcases hw with rfl | rfl | rfl | rfl
      · unfold Octets
        decide
      · exact decL_octets _
      · exact decL_octets _
      · exact decL_octets _
  by_cases h9 : k = 9
  · subst h9
    have hs : sumP ⟨9, m, p, n, v, d⟩ = (joinW [[105, 109, 97, 103, 101]], ⟨9, (m : Int), (p : Int), (n : Int), (v : Int), d⟩) := by simp [sumP, lettersP, wordP, stepP, textA, clearA, joinW]
    rw [hs] at hb ⊢
    have hz : bareA ⟨9, (m : Int), (p : Int), (n : Int), (v : Int), d⟩ = true := hb
    unfold bareA at hz
    simp only [Bool.and_eq_true, decide_eq_true_eq] at hz
    obtain rfl : m = 0 := by omega
    obtain rfl : v = 0 := by omega
    obtain rfl : d = [] := List.eq_nil_of_length_eq_zero (by omega)
    obtain rfl : p = 0 := by omega
    obtain rfl : n = 0 := by omega
    have hj := words_join [[105, 109, 97, 103, 101]] (by simp) (by
      intro w hw
      simp only [List.mem_cons, List.not_mem_nil, or_false] at hw
      subst hw
      decide)
    refine ⟨?_, ?_⟩
    · unfold actL
      rw [hj]
      have hf : formL [105, 109, 97, 103, 101] = some ([], 9) := by decide
      rw [List.getD_cons_zero, hf]
      simp [fieldsL, stepF, actOf, decL_val]
    · refine octets_join _ ?_
      intro w hw
      simp only [List.mem_cons, List.not_mem_nil, or_false] at hw
      subst hw
      unfold Octets
      decide
  by_cases h10 : k = 10
  · subst h10
    have hs : sumP ⟨10, m, p, n, v, d⟩ = (joinW [[115, 116, 97, 116, 117, 115]], ⟨10, (m : Int), (p : Int), (n : Int), (v : Int), d⟩) := by simp [sumP, lettersP, wordP, stepP, textA, clearA, joinW]
    rw [hs] at hb ⊢
    have hz : bareA ⟨10, (m : Int), (p : Int), (n : Int), (v : Int), d⟩ = true := hb
    unfold bareA at hz
    simp only [Bool.and_eq_true, decide_eq_true_eq] at hz
    obtain rfl : m = 0 := by omega
    obtain rfl : v = 0 := by omega
    obtain rfl : d = [] := List.eq_nil_of_length_eq_zero (by omega)
    obtain rfl : p = 0 := by omega
    obtain rfl : n = 0 := by omega
    have hj := words_join [[115, 116, 97, 116, 117, 115]] (by simp) (by
      intro w hw
      simp only [List.mem_cons, List.not_mem_nil, or_false] at hw
      subst hw
      decide)
    refine ⟨?_, ?_⟩
    · unfold actL
      rw [hj]
      have hf : formL [115, 116, 97, 116, 117, 115] = some ([], 10) := by decide
      rw [List.getD_cons_zero, hf]
      simp [fieldsL, stepF, actOf, decL_val]
    · refine octets_join _ ?_
      intro w hw
      simp only [List.mem_cons, List.not_mem_nil, or_false] at hw
      subst hw
      unfold Octets
      decide
  exact absurd (show wordP k = [] by unfold wordP; simp only [h1, h2, h3, h4, h5, h6, h7, h8, h9, h10, if_false]) hw
/-- The act that a line tells has that line. -/
theorem act_line (cs : List Int) (a : ActV) (h : actL cs = .ok a) : lineP a = some cs ∧ (0 ≤ a.k ∧ a.k ≤ 255) ∧ (0 ≤ a.m ∧ a.m ≤ 255) ∧ 0 ≤ a.v ∧ Octets a.d ∧ a.d.length ≤ cs.length := by
  unfold actL at h
  cases hf : formL ((wordsL cs).getD 0 []) with
  | none => rw [hf] at h; cases h
  | some fk =>
    obtain ⟨f, k⟩ := fk
    rw [hf] at h
    simp only at h
    cases hq : fieldsL (wordsL cs) f with
    | none => rw [hq] at h; cases h
    | some nt =>
      obtain ⟨ns, ts⟩ := nt
      rw [hq] at h
      simp only at h
      injection h with h
      subst h
      have hjoin := join_words cs
      obtain ⟨ws, hws⟩ : ∃ ws, wordsL cs = ws := ⟨_, rfl⟩
      rw [hws] at hf hq hjoin
      subst hjoin
      unfold fieldsL at hq
      split at hq
      case isFalse => cases hq
      next hlen =>
      unfold formL at hf
      split at hf
      · next he =>
        obtain ⟨rfl, rfl⟩ : [98, 110, 116] = f ∧ 1 = k := by simpa using hf
        match ws, hlen with
        | [w0, w1, w2, w3], _ =>
        obtain rfl : w0 = [98, 117, 105, 108, 100] := by simpa using he
        cases c0 : numB w1 255 with
        | false => simp [stepF, c0] at hq
        | true =>
        cases c1 : numB w2 2147483647 with
        | false => simp [stepF, c0, c1] at hq
        | true =>
        cases c2 : unB w3 with
        | false => simp [stepF, c0, c1, c2] at hq
        | true =>
        simp [stepF, c0, c1, c2] at hq
        obtain ⟨rfl, rfl⟩ := hq
        have e0 := dec_val c0
        have b0 := numB_le c0
        have e1 := dec_val c1
        have b1 := numB_le c1
        have e2 := hex_un c2
        have o2 := un_octets c2
        refine ⟨?_, ⟨by simp [actOf], by simp [actOf]⟩, ?_, ?_, ?_, ?_⟩
        · unfold lineP
          rw [if_neg, if_pos]
          · simp [actOf, sumP, lettersP, wordP, stepP, textA, clearA, joinW, e0, e1, e2]
          · simp [actOf, sumP, lettersP, stepP, clearA, bareA]
          · simp [actOf, wordP, inA]
            omega
        · simp [actOf]; omega
        · simp [actOf]; omega
        · simp [actOf]; exact o2
        · have := un_len w3
          simp [actOf, joinW]; omega
      split at hf
      · next he =>
        obtain ⟨rfl, rfl⟩ : [110, 110] = f ∧ 2 = k := by simpa using hf
        match ws, hlen with
        | [w0, w1, w2], _ =>
        obtain rfl : w0 = [102, 101, 101, 100] := by simpa using he
        cases c0 : numB w1 2147483647 with
        | false => simp [stepF, c0] at hq
        | true =>
        cases c1 : numB w2 2147483647 with
        | false => simp [stepF, c0, c1] at hq
        | true =>
        simp [stepF, c0, c1] at hq
        obtain ⟨rfl, rfl⟩ := hq
        have e0 := dec_val c0
        have b0 := numB_le c0
        have e1 := dec_val c1
        have b1 := numB_le c1
        refine ⟨?_, ⟨by simp [actOf], by simp [actOf]⟩, ?_, ?_, ?_, ?_⟩
        · unfold lineP
          rw [if_neg, if_pos]
          · simp [actOf, sumP, lettersP, wordP, stepP, textA, clearA, joinW, e0, e1]
          · simp [actOf, sumP, lettersP, stepP, clearA, bareA]
          · simp [actOf, wordP, inA]
            omega
        · simp [actOf]
        · simp [actOf]
        · simp [actOf]; exact fun x hx => by simp at hx
        · simp [actOf]
      split at hf
      · next he =>
        obtain ⟨rfl, rfl⟩ : [] = f ∧ 3 = k := by simpa using hf
        match ws, hlen with
        | [w0], _ =>
        obtain rfl : w0 = [98, 101, 103, 105, 110] := by simpa using he
        simp [stepF] at hq
        obtain ⟨rfl, rfl⟩ := hq
        refine ⟨?_, ⟨by simp [actOf], by simp [actOf]⟩, ?_, ?_, ?_, ?_⟩
        · unfold lineP
          rw [if_neg, if_pos]
          · simp [actOf, sumP, lettersP, wordP, stepP, textA, clearA, joinW]
          · simp [actOf, sumP, lettersP, stepP, clearA, bareA]
          · simp [actOf, wordP, inA]
        · simp [actOf]
        · simp [actOf]
        · simp [actOf]; exact fun x hx => by simp at hx
        · simp [actOf]
      split at hf
      · next he =>
        obtain ⟨rfl, rfl⟩ : [] = f ∧ 4 = k := by simpa using hf
        match ws, hlen with
        | [w0], _ =>
        obtain rfl : w0 = [99, 111, 109, 109, 105, 116] := by simpa using he
        simp [stepF] at hq
        obtain ⟨rfl, rfl⟩ := hq
        refine ⟨?_, ⟨by simp [actOf], by simp [actOf]⟩, ?_, ?_, ?_, ?_⟩
        · unfold lineP
          rw [if_neg, if_pos]
          · simp [actOf, sumP, lettersP, wordP, stepP, textA, clearA, joinW]
          · simp [actOf, sumP, lettersP, stepP, clearA, bareA]
          · simp [actOf, wordP, inA]
        · simp [actOf]
        · simp [actOf]
        · simp [actOf]; exact fun x hx => by simp at hx
        · simp [actOf]
      split at hf
      · next he =>
        obtain ⟨rfl, rfl⟩ : [] = f ∧ 5 = k := by simpa using hf
        match ws, hlen with
        | [w0], _ =>
        obtain rfl : w0 = [99, 97, 110, 99, 101, 108] := by simpa using he
        simp [stepF] at hq
        obtain ⟨rfl, rfl⟩ := hq
        refine ⟨?_, ⟨by simp [actOf], by simp [actOf]⟩, ?_, ?_, ?_, ?_⟩
        · unfold lineP
          rw [if_neg, if_pos]
          · simp [actOf, sumP, lettersP, wordP, stepP, textA, clearA, joinW]
          · simp [actOf, sumP, lettersP, stepP, clearA, bareA]
          · simp [actOf, wordP, inA]
        · simp [actOf]
        · simp [actOf]
        · simp [actOf]; exact fun x hx => by simp at hx
        · simp [actOf]
      split at hf
      · next he =>
        obtain ⟨rfl, rfl⟩ : [110] = f ∧ 6 = k := by simpa using hf
        match ws, hlen with
        | [w0, w1], _ =>
        obtain rfl : w0 = [102, 117, 115, 101] := by simpa using he
        cases c0 : numB w1 2147483647 with
        | false => simp [stepF, c0] at hq
        | true =>
        simp [stepF, c0] at hq
        obtain ⟨rfl, rfl⟩ := hq
        have e0 := dec_val c0
        have b0 := numB_le c0
        refine ⟨?_, ⟨by simp [actOf], by simp [actOf]⟩, ?_, ?_, ?_, ?_⟩
        · unfold lineP
          rw [if_neg, if_pos]
          · simp [actOf, sumP, lettersP, wordP, stepP, textA, clearA, joinW, e0]
          · simp [actOf, sumP, lettersP, stepP, clearA, bareA]
          · simp [actOf, wordP, inA]
            omega
        · simp [actOf]
        · simp [actOf]
        · simp [actOf]; exact fun x hx => by simp at hx
        · simp [actOf]
      split at hf
      · next he =>
        obtain ⟨rfl, rfl⟩ : [116] = f ∧ 7 = k := by simpa using hf
        match ws, hlen with
        | [w0, w1], _ =>
        obtain rfl : w0 = [102, 97, 108, 108] := by simpa using he
        cases c0 : unB w1 with
        | false => simp [stepF, c0] at hq
        | true =>
        simp [stepF, c0] at hq
        obtain ⟨rfl, rfl⟩ := hq
        have e0 := hex_un c0
        have o0 := un_octets c0
        refine ⟨?_, ⟨by simp [actOf], by simp [actOf]⟩, ?_, ?_, ?_, ?_⟩
        · unfold lineP
          rw [if_neg, if_pos]
          · simp [actOf, sumP, lettersP, wordP, stepP, textA, clearA, joinW, e0]
          · simp [actOf, sumP, lettersP, stepP, clearA, bareA]
          · simp [actOf, wordP, inA]
        · simp [actOf]
        · simp [actOf]
        · simp [actOf]; exact o0
        · have := un_len w1
          simp [actOf, joinW]; omega
      split at hf
      · next he =>
        obtain ⟨rfl, rfl⟩ : [110, 110, 98] = f ∧ 8 = k := by simpa using hf
        match ws, hlen with
        | [w0, w1, w2, w3], _ =>
        obtain rfl : w0 = [115, 112, 111, 105, 108] := by simpa using he
        cases c0 : numB w1 2147483647 with
        | false => simp [stepF, c0] at hq
        | true =>
        cases c1 : numB w2 2147483647 with
        | false => simp [stepF, c0, c1] at hq
        | true =>
        cases c2 : numB w3 255 with
        | false => simp [stepF, c0, c1, c2] at hq
        | true =>
        simp [stepF, c0, c1, c2] at hq
        obtain ⟨rfl, rfl⟩ := hq
        have e0 := dec_val c0
        have b0 := numB_le c0
        have e1 := dec_val c1
        have b1 := numB_le c1
        have e2 := dec_val c2
        have b2 := numB_le c2
        refine ⟨?_, ⟨by simp [actOf], by simp [actOf]⟩, ?_, ?_, ?_, ?_⟩
        · unfold lineP
          rw [if_neg, if_pos]
          · simp [actOf, sumP, lettersP, wordP, stepP, textA, clearA, joinW, e0, e1, e2]
          · simp [actOf, sumP, lettersP, stepP, clearA, bareA]
          · simp [actOf, wordP, inA]
            omega
        · simp [actOf]; omega
        · simp [actOf]
        · simp [actOf]; exact fun x hx => by simp at hx
        · simp [actOf]
      split at hf
      · next he =>
        obtain ⟨rfl, rfl⟩ : [] = f ∧ 9 = k := by simpa using hf
        match ws, hlen with
        | [w0], _ =>
        obtain rfl : w0 = [105, 109, 97, 103, 101] := by simpa using he
        simp [stepF] at hq
        obtain ⟨rfl, rfl⟩ := hq
        refine ⟨?_, ⟨by simp [actOf], by simp [actOf]⟩, ?_, ?_, ?_, ?_⟩
        · unfold lineP
          rw [if_neg, if_pos]
          · simp [actOf, sumP, lettersP, wordP, stepP, textA, clearA, joinW]
          · simp [actOf, sumP, lettersP, stepP, clearA, bareA]
          · simp [actOf, wordP, inA]
        · simp [actOf]
        · simp [actOf]
        · simp [actOf]; exact fun x hx => by simp at hx
        · simp [actOf]
      split at hf
      · next he =>
        obtain ⟨rfl, rfl⟩ : [] = f ∧ 10 = k := by simpa using hf
        match ws, hlen with
        | [w0], _ =>
        obtain rfl : w0 = [115, 116, 97, 116, 117, 115] := by simpa using he
        simp [stepF] at hq
        obtain ⟨rfl, rfl⟩ := hq
        refine ⟨?_, ⟨by simp [actOf], by simp [actOf]⟩, ?_, ?_, ?_, ?_⟩
        · unfold lineP
          rw [if_neg, if_pos]
          · simp [actOf, sumP, lettersP, wordP, stepP, textA, clearA, joinW]
          · simp [actOf, sumP, lettersP, stepP, clearA, bareA]
          · simp [actOf, wordP, inA]
        · simp [actOf]
        · simp [actOf]
        · simp [actOf]; exact fun x hx => by simp at hx
        · simp [actOf]
      cases hf
end Go.Proofs.Ytngeemfcmoahoaa.Tz
