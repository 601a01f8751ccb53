/-
  Layer 16, plan: both Evals, one answer, for all steps and images. Conditions: as each theorem names.
-/
import Derived.Test.YtheofegmbajmkaaPlX
import Derived.Test.YtheofegmbajmkaaPlZ
namespace Go.Proofs.Ytheofegmbajmkaa.Pl
open Go.ChangeShapes Go.WideShapes Go.ChangeAt Go.RowKit Go.Proofs.Ytheofegmbajmkaa.Kit

/-- What steps make of an image, as so many bytes; or the error. -/
def evalE (src : Option (List Int)) (ss : List Stp) (want : Int) : List Int × Int :=
  if ss.all rightS = false then ([], 3) else if sumX ss ≠ want then ([], 13) else match evalO src ss with
    | none => ([], 5)
    | some zs => (zs, 0)

theorem eval_any (A : Option Addr) (ss : List Stp) (c : Nat) (v : Value) (src : Option (List Int)) (want : Int) (w : World) (hl : ss.length ≤ 1000) (hc : ss.length ≤ c) (hm : c ≤ maxLen) (hr : HoldsS w A ss) (hs : Src w v src) :
    Calls Try.prog 21 #[.slice A ss.length c, v, .int .i64 want] w (GivesE (evalE src ss want).1 (evalE src ss want).2 w) := by
  unfold evalE
  cases h : ss.all rightS with
  | false => exact eval_form A ss c v want w hc hm hr h
  | true =>
    rw [if_neg (by simp)]
    by_cases hw : sumX ss = want
    · rw [if_neg (fun h => h hw)]
      subst hw
      cases he : evalO src ss with
      | none => exact eval_range A ss c v src w hl hc hm hr hs h he
      | some zs => exact eval_made A ss c v src zs w hl hc hm hr hs h he
    · rw [if_pos hw]
      exact eval_plan A ss c v want w hl hc hm hr h hw

theorem reval_any (A : Option Addr) (ss : List Stp) (c : Nat) (Ao : Option Addr) (old : List Int) (co : Nat) (want : Int) (w : World) (hl : ss.length ≤ 1000) (hc : ss.length ≤ c) (hm : c ≤ maxLen) (hr : HoldsS w A ss)
    (hlo : old.length ≤ 1000000) (hco : old.length ≤ co) (hmo : co ≤ maxLen) (hoo : Octets old) (hro : Holds w w.heap.size .u8 Ao old) :
    Calls Try.prog 13 #[.slice A ss.length c, .slice Ao old.length co, .int .i64 want] w (GivesE (evalE (some old) ss want).1 (evalE (some old) ss want).2 w) := by
  unfold evalE
  cases h : ss.all rightS with
  | false => exact reval_form A ss c Ao old co want w hl hc hm hr h
  | true =>
    rw [if_neg (by simp)]
    by_cases hw : sumX ss = want
    · rw [if_neg (fun h => h hw)]
      cases he : evalO (some old) ss with
      | none => exact reval_right A ss c Ao old co want w hl hc hm hr h hlo hco hmo hoo hro [] 5 (.inr (.inl ⟨hw, he, rfl, rfl⟩))
      | some zs => exact reval_right A ss c Ao old co want w hl hc hm hr h hlo hco hmo hoo hro zs 0 (.inr (.inr ⟨hw, he, rfl⟩))
    · rw [if_pos hw]
      exact reval_right A ss c Ao old co want w hl hc hm hr h hlo hco hmo hoo hro [] 13 (.inl ⟨hw, rfl, rfl⟩)
end Go.Proofs.Ytheofegmbajmkaa.Pl
