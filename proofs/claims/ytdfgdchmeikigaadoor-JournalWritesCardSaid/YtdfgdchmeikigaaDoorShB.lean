/-
  Layer 1, sha: two ways to choose bits, one answer; the words of a block and the rounds, as plain functions. No program. No conditions beyond what each theorem names.
-/
import Derived.Test.YtdfgdchmeikigaaDoorMem
import Derived.Laws.BitsAllLaws
namespace Go.Proofs.YtdfgdchmeikigaaDoor.Sha
open Go.ChangeShapes Go.WideShapes Go.ChangeAt Go.RowKit Go.Proofs.YtdfgdchmeikigaaDoor.Kit

theorem pick_nat (e f g : Nat) (he : e < 4294967296) : ((e &&& f) ^^^ ((4294967295 ^^^ e) &&& g)) = ((e &&& f) ||| ((4294967295 ^^^ e) &&& g)) := by
  apply Nat.eq_of_testBit_eq
  intro i
  rw [Nat.testBit_xor, Nat.testBit_or, Nat.testBit_and, Nat.testBit_and, Nat.testBit_xor]
  have h1 : Nat.testBit 4294967295 i = decide (i < 32) := Nat.testBit_two_pow_sub_one 32 i
  rw [h1]
  by_cases hi : i < 32
  · rw [decide_eq_true hi]
    cases e.testBit i <;> cases f.testBit i <;> cases g.testBit i <;> rfl
  · have h2 : e.testBit i = false := Nat.testBit_lt_two_pow (Nat.lt_of_lt_of_le (show e < 2 ^ 32 by omega) (Nat.pow_le_pow_right (n := 2) (by decide) (by omega)))
    rw [h2, decide_eq_false hi]
    cases f.testBit i <;> cases g.testBit i <;> rfl

theorem most_nat (a b c : Nat) : (((a &&& b) ^^^ (a &&& c)) ^^^ (b &&& c)) = (((a &&& b) ||| (a &&& c)) ||| (b &&& c)) := by
  apply Nat.eq_of_testBit_eq
  intro i
  simp only [Nat.testBit_xor, Nat.testBit_or, Nat.testBit_and]
  cases a.testBit i <;> cases b.testBit i <;> cases c.testBit i <;> rfl

def W32 (x : Int) : Prop := 0 ≤ x ∧ x ≤ 4294967295

theorem W32.nat {x : Int} (h : W32 x) : ∃ n : Nat, x = n ∧ n < 4294967296 := by
  obtain ⟨n, rfl⟩ := Int.eq_ofNat_of_zero_le h.1
  exact ⟨n, rfl, by have := h.2; omega⟩

def picks (e f g : Int) : Int := bits BinOp.xor .u32 (bits BinOp.and .u32 e f) (bits BinOp.and .u32 (bits BinOp.xor .u32 IntKind.u32.max e) g)
def most (a b c : Int) : Int := bits BinOp.xor .u32 (bits BinOp.xor .u32 (bits BinOp.and .u32 a b) (bits BinOp.and .u32 a c)) (bits BinOp.and .u32 b c)

theorem and_lt {a : Nat} (b : Nat) (h : a < 4294967296) : a &&& b < 4294967296 := Nat.lt_of_le_of_lt Nat.and_le_left h
theorem xor_lt {a b : Nat} (h : a < 4294967296) (h2 : b < 4294967296) : a ^^^ b < 4294967296 := Nat.xor_lt_two_pow (n := 32) h h2
theorem or_lt {a b : Nat} (h : a < 4294967296) (h2 : b < 4294967296) : a ||| b < 4294967296 := Nat.or_lt_two_pow (n := 32) h h2

theorem picks_or {e f g : Int} (he : W32 e) (hf : W32 f) (hg : W32 g) : bits BinOp.or .u32 (bits BinOp.and .u32 e f) (bits BinOp.and .u32 (bits BinOp.xor .u32 IntKind.u32.max e) g) = picks e f g := by
  obtain ⟨e, rfl, ke⟩ := he.nat
  obtain ⟨f, rfl, kf⟩ := hf.nat
  obtain ⟨g, rfl, kg⟩ := hg.nat
  unfold picks
  rw [show IntKind.u32.max = ((4294967295 : Nat) : Int) by rfl, u32_xor_nat _ _ (by decide) ke, u32_and_nat e f ke kf, u32_and_nat _ g (xor_lt (by decide) ke) kg, u32_or_nat _ _ (and_lt f ke) (and_lt g (xor_lt (by decide) ke)), u32_xor_nat _ _ (and_lt f ke) (and_lt g (xor_lt (by decide) ke)), pick_nat e f g ke]

theorem most_or {a b c : Int} (ha : W32 a) (hb : W32 b) (hc : W32 c) : bits BinOp.or .u32 (bits BinOp.or .u32 (bits BinOp.and .u32 a b) (bits BinOp.and .u32 a c)) (bits BinOp.and .u32 b c) = most a b c := by
  obtain ⟨a, rfl, ka⟩ := ha.nat
  obtain ⟨b, rfl, kb⟩ := hb.nat
  obtain ⟨c, rfl, kc⟩ := hc.nat
  unfold most
  rw [u32_and_nat a b ka kb, u32_and_nat a c ka kc, u32_and_nat b c kb kc, u32_or_nat _ _ (and_lt b ka) (and_lt c ka), u32_xor_nat _ _ (and_lt b ka) (and_lt c ka), u32_or_nat _ _ (or_lt (and_lt b ka) (and_lt c ka)) (and_lt c kb), u32_xor_nat _ _ (xor_lt (and_lt b ka) (and_lt c ka)) (and_lt c kb), most_nat a b c]
end Go.Proofs.YtdfgdchmeikigaaDoor.Sha
