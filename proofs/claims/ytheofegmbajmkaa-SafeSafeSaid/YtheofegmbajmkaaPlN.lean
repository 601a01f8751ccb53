/-
  Layer 16, plan: numbers as bytes: both functions, one answer. Conditions: as each theorem names.
-/
import Derived.Test.YtheofegmbajmkaaPlR
import Derived.Test.YtheofegmbajmkaaApp
import Derived.Laws.BitsAllLaws
namespace Go.Proofs.Ytheofegmbajmkaa.Pl
open Go.ChangeShapes Go.WideShapes Go.ChangeAt Go.RowKit Go.Proofs.Ytheofegmbajmkaa.Kit

theorem elem8 : IntElem Try.prog 30 5 .u8 1 := ⟨Try.underlying30, by kernel_rfl, by omega⟩

/-- A number, seven bits a byte, the lowest first; all but the last have 128 more. -/
def numF : Nat → Int → List Int
  | 0, n => [n]
  | f + 1, n => if n < 128 then [n] else (128 + n % 128) :: numF f (n / 128)
def numB (n : Int) : List Int := numF 8 n

theorem numF_length : ∀ (f : Nat) (n : Int), 1 ≤ (numF f n).length ∧ (numF f n).length ≤ f + 1
  | 0, n => by simp [numF]
  | f + 1, n => by
    have := numF_length f (n / 128)
    rw [numF]
    split <;> simp <;> omega
theorem numB_length (n : Int) : 1 ≤ (numB n).length ∧ (numB n).length ≤ 9 := numF_length 8 n
theorem numF_octets : ∀ (f : Nat) (n : Int), 0 ≤ n → n < 128 ^ (f + 1) → Octets (numF f n)
  | 0, n, h0, h1 => by
    intro x hx
    simp [numF] at hx
    subst hx
    simp at h1
    omega
  | f + 1, n, h0, h1 => by
    intro x hx
    rw [numF] at hx
    split at hx
    · simp at hx; omega
    · rcases List.mem_cons.1 hx with rfl | hx
      · omega
      · exact numF_octets f (n / 128) (by omega) (by rw [Int.pow_succ] at h1; exact Int.ediv_lt_of_lt_mul (by omega) (by omega)) x hx

theorem or128 (y : Int) (h : 0 ≤ y ∧ y ≤ 255) : bits BinOp.or IntKind.u8 y 128 = 128 + y % 128 := by
  obtain ⟨n, rfl⟩ := Int.eq_ofNat_of_zero_le h.1
  have e : ∀ a, a < 256 → a ||| 128 = 128 + a % 128 := by decide +kernel
  have := e n (by omega)
  rw [show (128 : Int) = ((128 : Nat) : Int) from rfl, u8_or_nat _ _ (by omega) (by omega), this]
  omega

/-- What number gives: the row, longer. -/
def Longer (B : Nat) (v : Value) (xs : List Int) (w : World) (e : Ending) (w' : World) : Prop :=
  ∃ A' c', e = .returned (.slice A' xs.length c') ∧ Own w' B 5 .u8 (.slice A' xs.length c') xs ∧ TurnsIn (fun b => v.ownBlock = some b) w w' ∧ Newer w v (.slice A' xs.length c')

theorem TurnsIn.own {w w1 w2 : World} {v v1 : Value} (t1 : TurnsIn (fun b => v.ownBlock = some b) w w1) (n1 : Newer w v v1) (t2 : TurnsIn (fun b => v1.ownBlock = some b) w1 w2) : TurnsIn (fun b => v.ownBlock = some b) w w2 :=
  t1.then_ t2 fun b hb hv => by
    rcases n1 with h | h
    · rw [← h]; exact hv
    · have := h b hv; omega

end Go.Proofs.Ytheofegmbajmkaa.Pl
