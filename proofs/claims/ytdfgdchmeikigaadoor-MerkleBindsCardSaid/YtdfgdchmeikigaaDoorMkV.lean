/-
  Layer 21, merkle: a leaf's way leads to the root; two ways to one root: plain words.
-/
import Derived.Test.YtdfgdchmeikigaaDoorMkJ
import Derived.Test.YtdfgdchmeikigaaDoorMkK
namespace Go.Proofs.YtdfgdchmeikigaaDoor.Mk
open Go.ChangeShapes Go.WideShapes Go.ChangeAt Go.RowKit Go.Proofs.YtdfgdchmeikigaaDoor.Kit Go.Proofs.YtdfgdchmeikigaaDoor.Sha

theorem lead_wayD (n : Nat) : ∀ (l : List (List Int)) (i : Nat), l.length = n → i < l.length → l.length < 18446744073709551616 → leadL (l.getD i []) i l.length (wayL l i) = rootL l := by
  induction n using Nat.strongRecOn with
  | ind n ih =>
    intro l i hn hi hlt
    by_cases h2 : 2 ≤ l.length
    · obtain ⟨_, a, b, c⟩ := half_bd h2 hlt
      have lt : (l.take (halfN l.length)).length = halfN l.length := by simp <;> omega
      have ld : (l.drop (halfN l.length)).length = l.length - halfN l.length := by simp
      by_cases hk : i < halfN l.length
      · have h1 := ih (halfN l.length) (by omega) (l.take (halfN l.length)) i lt (by omega) (by omega)
        rw [lt] at h1
        have e : (l.take (halfN l.length)).getD i [] = l.getD i [] := by simp [List.getD, List.getElem?_take, hk]
        rw [e] at h1
        rw [wayL_lo h2 hlt hk, leadL_lo h2 hlt hk, h1, rootL_two h2 hlt]
      · have h1 := ih (l.length - halfN l.length) (by omega) (l.drop (halfN l.length)) (i - halfN l.length) ld (by omega) (by omega)
        rw [ld] at h1
        have e : (l.drop (halfN l.length)).getD (i - halfN l.length) [] = l.getD i [] := by simp [List.getD, List.getElem?_drop, show halfN l.length + (i - halfN l.length) = i by omega]
        rw [e] at h1
        rw [wayL_hi h2 hlt hk, leadL_hi h2 hlt hk, h1, rootL_two h2 hlt]
    · have h1 : l.length = 1 := by omega
      obtain ⟨d, rfl⟩ : ∃ d, l = [d] := by match l, h1 with | [d], _ => exact ⟨d, rfl⟩
      obtain rfl : i = 0 := by simp at hi; exact hi
      rw [leadL_one (by simp), rootL_one]
      rfl
theorem lead_way (n : Nat) (l : List (List Int)) (i : Nat) (hn : l.length = n) (hi : i < l.length) (hlt : l.length < 18446744073709551616) : leadL l[i] i l.length (wayL l i) = rootL l := by
  have := lead_wayD n l i hn hi hlt
  rwa [List.getD_eq_getElem?_getD, List.getElem?_eq_getElem hi, Option.getD_some] at this

/-- Does the pair tell two texts of one sum, where the ways part? -/
def clashL (x : List Int) : Nat → List (List Int) → Nat → List (List Int) → Bool
  | 0, _, _, _ => false
  | f + 1, l, i, ws =>
    if l.length < 2 then false else
    let k := halfN l.length
    let q := ws.getLastD []
    let r := ws.dropLast
    let a := rootL (l.take k)
    let b := rootL (l.drop k)
    let u := if i < k then leadL x i k r else q
    let v := if i < k then q else leadL x (i - k) (l.length - k) r
    if 1 :: (a ++ b) ≠ 1 :: (u ++ v) then decide (pairL a b = pairL u v)
    else if i < k then clashL x f (l.take k) i r else clashL x f (l.drop k) (i - k) r
end Go.Proofs.YtdfgdchmeikigaaDoor.Mk
