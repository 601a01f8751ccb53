/-
  Layer 30, an act, taken word by word: plain. No program. No conditions beyond what each theorem names.
-/
import Derived.Test.YtngeemfcmoahoaaTvD
import Derived.Test.YtngeemfcmoahoaaTyE
namespace Go.Proofs.Ytngeemfcmoahoaa.Tv
open Go.ChangeShapes Go.WideShapes Go.ChangeAt Go.RowKit Go.Proofs.Ytngeemfcmoahoaa.Kit Go.Proofs.Ytngeemfcmoahoaa.Tx Go.Proofs.Ytngeemfcmoahoaa.Ty Go.Proofs.Ytngeemfcmoahoaa.Tz

/-- A letter's word, taken into an act. -/
def takeA (ws : List (List Int)) (t : Nat) (f : Int) (a : ActV) : Option ActV :=
  if ws.length ≤ t then none
  else if f = 77 then (if numB (ws.getD t []) 255 = true then some { a with m := valN (ws.getD t []) } else none)
  else if f = 86 then (if numB (ws.getD t []) 2147483647 = true then some { a with v := valN (ws.getD t []) } else none)
  else if f = 84 then (if unB (ws.getD t []) = true then some { a with d := unL (ws.getD t []) } else none)
  else if f = 80 then (if numB (ws.getD t []) 2147483647 = true then some { a with p := valN (ws.getD t []) } else none)
  else (if numB (ws.getD t []) 2147483647 = true then some { a with n := valN (ws.getD t []) } else none)
def goA (ws : List (List Int)) : List Int → Nat → ActV → Option ActV
  | [], _, a => some a
  | f :: fs, t, a => match takeA ws t f a with
    | none => none
    | some b => goA ws fs (t + 1) b
def actG (ws : List (List Int)) (k : Int) : Option ActV := match goA ws (lettersP k) 1 ⟨k, 0, 0, 0, 0, []⟩ with
  | none => none
  | some a => if ws.length ≤ (lettersP k).length + 1 then some a else none
theorem goA_short {ws : List (List Int)} : ∀ (fs : List Int) (t : Nat) (a : ActV), ws.length < t + fs.length → 0 < fs.length → goA ws fs t a = none
  | [], t, a, _, h0 => by simp at h0
  | f :: fs, t, a, h, _ => by
    rw [goA]
    cases ht : takeA ws t f a with
    | none => rfl
    | some b =>
      simp only []
      cases fs with
      | nil =>
        exfalso
        unfold takeA at ht
        rw [if_pos (by simp at h; omega)] at ht
        cases ht
      | cons f2 fs2 => exact goA_short (f2 :: fs2) (t + 1) b (by simp at h ⊢; omega) (by simp)
def formF (k : Int) : List Int := if k = 1 then [98, 110, 116] else if k = 2 then [110, 110] else if k = 6 then [110] else if k = 7 then [116] else if k = 8 then [110, 110, 98] else []
theorem form_of {cs : List Int} {f : List Int} {k : Int} (h : formL cs = some (f, k)) : f = formF k ∧ 1 ≤ k ∧ k ≤ 10 := by
  unfold formL at h
  split at h
  · cases h; exact ⟨rfl, by omega, by omega⟩
  split at h
  · cases h; exact ⟨rfl, by omega, by omega⟩
  split at h
  · cases h; exact ⟨rfl, by omega, by omega⟩
  split at h
  · cases h; exact ⟨rfl, by omega, by omega⟩
  split at h
  · cases h; exact ⟨rfl, by omega, by omega⟩
  split at h
  · cases h; exact ⟨rfl, by omega, by omega⟩
  split at h
  · cases h; exact ⟨rfl, by omega, by omega⟩
  split at h
  · cases h; exact ⟨rfl, by omega, by omega⟩
  split at h
  · cases h; exact ⟨rfl, by omega, by omega⟩
  split at h
  · cases h; exact ⟨rfl, by omega, by omega⟩
  · cases h
theorem actG_is (ws : List (List Int)) (k : Int) (h1 : 1 ≤ k) (h2 : k ≤ 10) (h0 : 0 < ws.length) :
    actG ws k = match fieldsL ws (formF k) with | none => none | some (ns, ts) => some (actOf k ns ts) := by
  have hlen : (formF k).length = (lettersP k).length := by
    obtain rfl | rfl | rfl | rfl | rfl | rfl | rfl | rfl | rfl | rfl : k = 1 ∨ k = 2 ∨ k = 3 ∨ k = 4 ∨ k = 5 ∨ k = 6 ∨ k = 7 ∨ k = 8 ∨ k = 9 ∨ k = 10 := by omega
    all_goals rfl
  by_cases hl : ws.length = (lettersP k).length + 1
  · obtain rfl | rfl | rfl | rfl | rfl | rfl | rfl | rfl | rfl | rfl : k = 1 ∨ k = 2 ∨ k = 3 ∨ k = 4 ∨ k = 5 ∨ k = 6 ∨ k = 7 ∨ k = 8 ∨ k = 9 ∨ k = 10 := by omega
    case inl =>
      match ws, hl with
      | [a, b, c, d], _ =>
        by_cases hb : numB b 255 = true <;> by_cases hc : numB c 2147483647 = true <;> by_cases hd : unB d = true <;> simp [actG, goA, takeA, lettersP, fieldsL, formF, stepF, actOf, hb, hc, hd]
    case inr.inl =>
      match ws, hl with
      | [a, b, c], _ =>
        by_cases hb : numB b 2147483647 = true <;> by_cases hc : numB c 2147483647 = true <;> simp [actG, goA, takeA, lettersP, fieldsL, formF, stepF, actOf, hb, hc]
    case inr.inr.inr.inr.inr.inl =>
      match ws, hl with
      | [a, b], _ =>
        by_cases hb : numB b 2147483647 = true <;> simp [actG, goA, takeA, lettersP, fieldsL, formF, stepF, actOf, hb]
    case inr.inr.inr.inr.inr.inr.inl =>
      match ws, hl with
      | [a, b], _ =>
        by_cases hb : unB b = true <;> simp [actG, goA, takeA, lettersP, fieldsL, formF, stepF, actOf, hb]
    case inr.inr.inr.inr.inr.inr.inr.inl =>
      match ws, hl with
      | [a, b, c, d], _ =>
        by_cases hb : numB b 2147483647 = true <;> by_cases hc : numB c 2147483647 = true <;> by_cases hd : numB d 255 = true <;> simp [actG, goA, takeA, lettersP, fieldsL, formF, stepF, actOf, hb, hc, hd]
    all_goals
      match ws, hl with
      | [a], _ => simp [actG, goA, lettersP, fieldsL, formF, actOf]
  · have hf : fieldsL ws (formF k) = none := by unfold fieldsL; rw [if_neg (by omega)]
    rw [hf]
    unfold actG
    rcases Nat.lt_or_ge ws.length ((lettersP k).length + 1) with h | h
    · rw [goA_short _ _ _ (by omega) (by omega)]
    · cases goA ws (lettersP k) 1 ⟨k, 0, 0, 0, 0, []⟩ with
      | none => rfl
      | some a => simp only []; rw [if_neg (by omega)]
/-- What the document's Act tells, by the words. -/
theorem actL_is (cs : List Int) : actL cs = match formL ((wordsL cs).getD 0 []) with
    | none => .error 21
    | some (_, k) => match actG (wordsL cs) k with
      | none => .error 3
      | some a => .ok a := by
  unfold actL
  cases h : formL ((wordsL cs).getD 0 []) with
  | none => rfl
  | some q =>
    obtain ⟨f, k⟩ := q
    obtain ⟨rfl, hk1, hk2⟩ := form_of h
    have h0 : 0 < (wordsL cs).length := List.length_pos_iff.2 (wordsL_ne cs)
    simp only []
    rw [actG_is _ k hk1 hk2 h0]
    cases fieldsL (wordsL cs) (formF k) with
    | none => rfl
    | some q => obtain ⟨ns, ts⟩ := q; rfl
end Go.Proofs.Ytngeemfcmoahoaa.Tv
