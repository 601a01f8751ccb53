/-
  Layer 30, lines of acts: words, numbers, forms: plain. No program. No conditions beyond what each theorem names.
-/
import Derived.Test.YtngeemfcmoahoaaTxP
namespace Go.Proofs.Ytngeemfcmoahoaa.Ty
open Go.ChangeShapes Go.WideShapes Go.ChangeAt Go.RowKit Go.Proofs.Ytngeemfcmoahoaa.Kit Go.Proofs.Ytngeemfcmoahoaa.Tx

/-- A line's words: what stands between blanks. -/
def wordsL : List Int → List (List Int)
  | [] => [[]]
  | c :: r => if c = 32 then [] :: wordsL r else match wordsL r with
    | [] => [[c]]
    | w :: ws => (c :: w) :: ws
theorem wordsL_ne : ∀ cs, wordsL cs ≠ []
  | [] => by simp [wordsL]
  | c :: r => by
    rw [wordsL]
    split
    · simp
    · cases h : wordsL r with
      | nil => simp
      | cons w ws => simp
theorem wordsL_cut : ∀ (p r : List Int), (∀ c ∈ p, c ≠ 32) → wordsL (p ++ 32 :: r) = p :: wordsL r
  | [], r, _ => by rw [List.nil_append, wordsL, if_pos rfl]
  | c :: p, r, h => by
    rw [List.cons_append, wordsL, if_neg (h c (by simp)), wordsL_cut p r fun d hd => h d (by simp [hd])]
theorem wordsL_end : ∀ (p : List Int), (∀ c ∈ p, c ≠ 32) → wordsL p = [p]
  | [], _ => rfl
  | c :: p, h => by
    rw [wordsL, if_neg (h c (by simp)), wordsL_end p fun d hd => h d (by simp [hd])]
theorem wordsL_length : ∀ cs, (wordsL cs).length ≤ cs.length + 1
  | [] => by simp [wordsL]
  | c :: r => by
    have ih := wordsL_length r
    rw [wordsL]
    split
    · simp; omega
    · cases h : wordsL r with
      | nil => simp
      | cons w ws => rw [h] at ih; simp at ih ⊢; omega
theorem wordsL_mem : ∀ cs, ∀ w ∈ wordsL cs, (∀ c ∈ w, c ∈ cs ∧ c ≠ 32) ∧ w.length ≤ cs.length
  | [], w, h => by
    obtain rfl : w = [] := by simpa [wordsL] using h
    simp
  | c :: r, w, h => by
    rw [wordsL] at h
    split at h
    · rcases List.mem_cons.1 h with rfl | h
      · simp
      · obtain ⟨h1, h2⟩ := wordsL_mem r w h
        exact ⟨fun d hd => ⟨by simp [(h1 d hd).1], (h1 d hd).2⟩, by simp; omega⟩
    · next hc =>
      cases hr : wordsL r with
      | nil => exact absurd hr (wordsL_ne r)
      | cons v vs =>
        rw [hr] at h
        rcases List.mem_cons.1 h with rfl | h
        · obtain ⟨h1, h2⟩ := wordsL_mem r v (by rw [hr]; simp)
          refine ⟨fun d hd => ?_, by simp; omega⟩
          rcases List.mem_cons.1 hd with rfl | hd
          · exact ⟨by simp, hc⟩
          · exact ⟨by simp [(h1 d hd).1], (h1 d hd).2⟩
        · obtain ⟨h1, h2⟩ := wordsL_mem r w (by rw [hr]; simp [h])
          exact ⟨fun d hd => ⟨by simp [(h1 d hd).1], (h1 d hd).2⟩, by simp; omega⟩
/-- Words, put together again. -/
def joinW : List (List Int) → List Int
  | [] => []
  | [w] => w
  | w :: v :: ws => w ++ 32 :: joinW (v :: ws)
theorem join_words : ∀ cs, joinW (wordsL cs) = cs
  | [] => rfl
  | c :: r => by
    have ih := join_words r
    rw [wordsL]
    cases hr : wordsL r with
    | nil => exact absurd hr (wordsL_ne r)
    | cons v vs =>
      rw [hr] at ih
      split
      · next hc => rw [joinW, ih, hc]; rfl
      · cases vs with
        | nil =>
          simp only [joinW] at ih ⊢
          rw [ih]
        | cons u us =>
          rw [joinW] at ih ⊢
          rw [← ih]
          rfl

/-- Decimal digits. -/
def isD (c : Int) : Bool := decide (48 ≤ c) && decide (c ≤ 57)
def valN (cs : List Int) : Int := cs.foldl (fun n c => 10 * n + (c - 48)) 0
theorem valN_snoc (cs : List Int) (c : Int) : valN (cs ++ [c]) = 10 * valN cs + (c - 48) := by simp [valN]
theorem valN_bd' : ∀ (n : Nat) (cs : List Int), cs.length = n → cs.all isD = true → 0 ≤ valN cs ∧ valN cs < 10 ^ n
  | 0, cs, h, _ => by
    obtain rfl : cs = [] := List.eq_nil_of_length_eq_zero h
    simp [valN]
  | n + 1, cs, h, hd => by
    rcases List.eq_nil_or_concat cs with rfl | ⟨l, c, rfl⟩
    · simp at h
    · rw [List.concat_eq_append] at *
      rw [List.all_append, Bool.and_eq_true] at hd
      have ih := valN_bd' n l (by simpa using h) hd.1
      have hc : isD c = true := by simpa using hd.2
      have hb : 48 ≤ c ∧ c ≤ 57 := by simpa [isD] using hc
      rw [valN_snoc]
      rw [Int.pow_succ]
      omega
theorem valN_bd {cs : List Int} (h : cs.all isD = true) : 0 ≤ valN cs ∧ valN cs < 10 ^ cs.length := valN_bd' _ cs rfl h
theorem valN_bd10 {cs : List Int} (h : cs.all isD = true) (hl : cs.length ≤ 10) : 0 ≤ valN cs ∧ valN cs < 10000000000 := by
  obtain ⟨h1, h2⟩ := valN_bd h
  refine ⟨h1, ?_⟩
  have : (10 : Int) ^ cs.length ≤ 10 ^ 10 := by
    have := Nat.pow_le_pow_right (n := 10) (by omega) hl
    exact_mod_cast this
  have e : (10 : Int) ^ 10 = 10000000000 := by decide
  omega
def numB (cs : List Int) (most : Int) : Bool := !cs.isEmpty && decide (cs.length ≤ 10) && !(decide (1 < cs.length) && (cs.getD 0 0 == 48)) && cs.all isD && decide (valN cs ≤ most)
theorem numB_empty (most : Int) : numB [] most = false := rfl
theorem numB_long {cs : List Int} (h : 10 < cs.length) (most : Int) : numB cs most = false := by
  unfold numB
  rw [decide_eq_false (show ¬ cs.length ≤ 10 by omega)]
  simp
theorem numB_zero {cs : List Int} (h : 1 < cs.length) (h0 : cs.getD 0 0 = 48) (most : Int) : numB cs most = false := by
  unfold numB
  rw [decide_eq_true h, h0]
  simp
theorem numB_bad {cs : List Int} (h : cs.all isD = false) (most : Int) : numB cs most = false := by
  unfold numB
  rw [h]
  simp
theorem numB_end {cs : List Int} (h0 : cs ≠ []) (h1 : cs.length ≤ 10) (h2 : ¬ (1 < cs.length ∧ cs.getD 0 0 = 48)) (h3 : cs.all isD = true) (most : Int) : numB cs most = decide (valN cs ≤ most) := by
  unfold numB
  have e1 : cs.isEmpty = false := by cases cs with | nil => exact absurd rfl h0 | cons _ _ => rfl
  have e2 : (decide (1 < cs.length) && (cs.getD 0 0 == 48)) = false := by
    by_cases a : 1 < cs.length
    · have b : ¬ cs.getD 0 0 = 48 := fun hb => h2 ⟨a, hb⟩
      rw [decide_eq_true a, beq_eq_false_iff_ne.2 b]; rfl
    · rw [decide_eq_false a]; rfl
  rw [e1, e2, decide_eq_true h1, h3]
  simp
theorem all_bad {cs : List Int} {i : Nat} (hi : i < cs.length) (h : isD (cs.getD i 0) = false) : cs.all isD = false := by
  cases hq : cs.all isD with
  | false => rfl
  | true =>
    rw [List.all_eq_true] at hq
    have := hq (cs.getD i 0) (by rw [List.getD_eq_getElem?_getD, List.getElem?_eq_getElem hi]; exact List.getElem_mem hi)
    rw [h] at this
    cases this
/-- One word more, by its letter: 116: a text; 98: a byte; else a number. -/
def stepF (acc : Option (List Int × List (List Int))) (p : List Int × Int) : Option (List Int × List (List Int)) :=
  match acc with
  | none => none
  | some (ns, ts) =>
    if p.2 = 116 then if unB p.1 = true then some (ns, ts ++ [unL p.1]) else none
    else if numB p.1 (if p.2 = 98 then 255 else 2147483647) = true then some (ns ++ [valN p.1], ts) else none
/-- The words behind the first one, by a form. -/
def fieldsL (ws : List (List Int)) (fs : List Int) : Option (List Int × List (List Int)) :=
  if ws.length = fs.length + 1 then (ws.tail.zip fs).foldl stepF (some ([], [])) else none
theorem stepF_none : ∀ l : List (List Int × Int), l.foldl stepF none = none
  | [] => rfl
  | p :: l => by rw [List.foldl_cons]; exact stepF_none l
theorem fields_take {ws : List (List Int)} {fs : List Int} (hl : ws.length = fs.length + 1) {i : Nat} (hi : i < fs.length) :
    ((ws.tail.zip fs).take (i + 1)).foldl stepF (some ([], [])) = stepF (((ws.tail.zip fs).take i).foldl stepF (some ([], []))) (ws.getD (i + 1) [], fs.getD i 0) := by
  have h1 : i < (ws.tail.zip fs).length := by rw [List.length_zip, List.length_tail]; omega
  have h2 : i + 1 < ws.length := by omega
  rw [List.take_succ_eq_append_getElem h1, List.foldl_append, List.foldl_cons, List.foldl_nil]
  congr 1
  rw [List.getElem_zip, List.getElem_tail, List.getD_eq_getElem?_getD, List.getD_eq_getElem?_getD, List.getElem?_eq_getElem h2, List.getElem?_eq_getElem hi]
  rfl
theorem fields_bad {ws : List (List Int)} {fs : List Int} (hl : ws.length = fs.length + 1) {i : Nat} (hi : i < fs.length) (h : stepF (((ws.tail.zip fs).take i).foldl stepF (some ([], []))) (ws.getD (i + 1) [], fs.getD i 0) = none) : fieldsL ws fs = none := by
  unfold fieldsL
  rw [if_pos hl, ← List.take_append_drop (i + 1) (ws.tail.zip fs), List.foldl_append, fields_take hl hi, h, stepF_none]
theorem fields_all {ws : List (List Int)} {fs : List Int} (hl : ws.length = fs.length + 1) : ((ws.tail.zip fs).take fs.length).foldl stepF (some ([], [])) = fieldsL ws fs := by
  unfold fieldsL
  rw [if_pos hl, List.take_of_length_le (by rw [List.length_zip, List.length_tail]; omega)]
end Go.Proofs.Ytngeemfcmoahoaa.Ty
