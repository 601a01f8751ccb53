/-
  Layer 8, bits: the rest of a writer: Align, Raw, Len, Bytes. Conditions: as each theorem names.
  Layer 12, deflate: stored blocks; how long a packed text is at most; the document's examples: contracts. Conditions: as each theorem names.
  Layer 12, deflate: the document's examples. Conditions: the tables hold what the program's text lays.
-/
import Derived.Test.YthflefdchgpbdaaDoorMBitR
import Derived.BigQuiet
import Derived.Deep.QuietTactic
import Derived.Test.YthflefdchgpbdaaDoorMDfS
import Derived.Test.YthflefdchgpbdaaDoorMGIces0
import Derived.Laws.BitsAllLaws
import Derived.Lib.QuietBelow
namespace Go.Proofs.YthflefdchgpbdaaDoor.Bits
open Go.ChangeShapes Go.WideShapes Go.ChangeAt Go.RowKit Go.Proofs.YthflefdchgpbdaaDoor.Kit

theorem num_zero : ∀ n, num 0 n = List.replicate n 0
  | 0 => rfl
  | n + 1 => by rw [num, show (0 : Int) / 2 = 0 by decide, num_zero n]; rfl

/-- What Bytes gives: a new row. -/
def GivesRow (xs : List Int) (w : World) (e : Ending) (w' : World) : Prop := ∃ v, e = .returned v ∧ Own w' w.heap.size 5 .u8 v xs ∧ Below w.heap.size w w'

end Go.Proofs.YthflefdchgpbdaaDoor.Bits

namespace Go.Proofs.YthflefdchgpbdaaDoor.Df
open Go.ChangeShapes Go.WideShapes Go.ChangeAt Go.RowKit Go.Proofs.YthflefdchgpbdaaDoor.Kit Go.Proofs.YthflefdchgpbdaaDoor.Bits

def clampM (n : Int) : Int := if n < 0 then 0 else if 2147483647 < n then 2147483647 else n
def mostF (n : Int) : Int := clampM n + 5 * (if clampM n = 0 then 1 else (clampM n + 65534) / 65535)

theorem clampM_bd (n : Int) : 0 ≤ clampM n ∧ clampM n ≤ 2147483647 := by
  unfold clampM
  by_cases h0 : n < 0
  · rw [if_pos h0]; omega
  · rw [if_neg h0]
    by_cases h1 : 2147483647 < n
    · rw [if_pos h1]; omega
    · rw [if_neg h1]; omega
theorem clampM_eq (n : Int) : (if 2147483647 < (if n < 0 then 0 else n) then 2147483647 else (if n < 0 then 0 else n)) = clampM n := by
  unfold clampM
  by_cases h0 : n < 0
  · rw [if_pos h0, if_pos h0]; rfl
  · rw [if_neg h0, if_neg h0]

theorem ret_int {k : IntKind} {a b : Int} (h : a = b) : Ending.returned (.int k a) = .returned (.int k b) := by rw [h]

/-! ### Stored blocks -/

/-- A text of at most 65535 bytes, in a stored block. -/
def stB (b : List Int) : List Int := [1, (b.length : Int) % 256, (b.length : Int) / 256, 255 - (b.length : Int) % 256, 255 - (b.length : Int) / 256] ++ b

theorem stB_length (b : List Int) : (stB b).length = 5 + b.length := by simp [stB]; omega

theorem num_low (x y : Int) (n : Nat) (h : x % 2 ^ n = y % 2 ^ n) : num x n = num y n := by
  have h1 := num_val (num_bit n x)
  have h2 := num_val (num_bit n y)
  rw [val_num, num_length] at h1 h2
  rw [← h1, ← h2, h]

theorem head_bits (n : Int) (h : 0 ≤ n ∧ n ≤ 65535) : pad ([] ++ num 1 1 ++ num 0 2) ++ num n 16 ++ num (4294967295 - n) 16 = bitsOf [1, n % 256, n / 256, 255 - n % 256, 255 - n / 256] := by
  have e1 : num n 16 = num (n % 256) 8 ++ num (n / 256) 8 := by
    rw [show (16 : Nat) = 8 + 8 from rfl, num_append 8 8 n, show (2 : Int) ^ 8 = 256 by decide]
    rw [num_low n (n % 256) 8 (by rw [show (2 : Int) ^ 8 = 256 by decide]; omega)]
  have e2 : num (4294967295 - n) 16 = num (255 - n % 256) 8 ++ num (255 - n / 256) 8 := by
    rw [show (16 : Nat) = 8 + 8 from rfl, num_append 8 8 (4294967295 - n), show (2 : Int) ^ 8 = 256 by decide]
    rw [num_low (4294967295 - n) (255 - n % 256) 8 (by rw [show (2 : Int) ^ 8 = 256 by decide]; omega)]
    rw [num_low ((4294967295 - n) / 256) (255 - n / 256) 8 (by rw [show (2 : Int) ^ 8 = 256 by decide]; omega)]
  rw [e1, e2]
  have e3 : pad ([] ++ num 1 1 ++ num 0 2) = num 1 8 := by decide
  rw [e3]
  simp [bitsOf]

theorem st_bytes (b : List Int) (hb : Octets b) (h : b.length ≤ 65535) :
    bytesOf (((pad (pad ([] ++ num 1 1 ++ num 0 2) ++ num (b.length : Int) 16 ++ num (4294967295 - (b.length : Int)) 16) ++ bitsOf b).length + 7) / 8) (pad (pad ([] ++ num 1 1 ++ num 0 2) ++ num (b.length : Int) 16 ++ num (4294967295 - (b.length : Int)) 16) ++ bitsOf b) = stB b := by
  rw [head_bits _ (by omega)]
  have hp : pad (bitsOf [1, (b.length : Int) % 256, (b.length : Int) / 256, 255 - (b.length : Int) % 256, 255 - (b.length : Int) / 256]) = bitsOf [1, (b.length : Int) % 256, (b.length : Int) / 256, 255 - (b.length : Int) % 256, 255 - (b.length : Int) / 256] := by
    unfold pad
    rw [bitsOf_length]
    simp
  rw [hp, ← bitsOf_append, bitsOf_length]
  have ho : Octets (stB b) := by
    intro x hx
    rcases List.mem_append.1 hx with hx | hx
    · simp at hx
      omega
    · exact hb x hx
  have hl := stB_length b
  show bytesOf ((8 * (stB b).length + 7) / 8) (bitsOf (stB b)) = stB b
  rw [show (8 * (stB b).length + 7) / 8 = (stB b).length by omega]
  exact bytesOf_bits _ ho

/-- All bits turned. -/
theorem not32 (x : Nat) (h : x < 4294967296) : bits BinOp.xor IntKind.u32 IntKind.u32.max (x : Int) = 4294967295 - (x : Int) := by
  rw [show IntKind.u32.max = ((4294967295 : Nat) : Int) by rfl, u32_xor_nat _ _ (by decide) h]
  have e : 4294967295 ^^^ x = 4294967295 - x := by
    apply Nat.eq_of_testBit_eq
    intro i
    have h1 := Nat.testBit_two_pow_sub_succ (n := 32) (x := x) (by simpa using h) i
    rw [show 2 ^ 32 - (x + 1) = 4294967295 - x by omega] at h1
    have h2 := Nat.testBit_two_pow_sub_one 32 i
    rw [show (2 ^ 32 - 1 : Nat) = 4294967295 by decide] at h2
    rw [h1, Nat.testBit_xor, h2]
    by_cases hi : i < 32
    · simp [hi]
    · have : x.testBit i = false := Nat.testBit_lt_two_pow (Nat.lt_of_lt_of_le h (by rw [show (4294967296 : Nat) = 2 ^ 32 by decide]; exact Nat.pow_le_pow_right (by omega) (by omega)))
      simp [hi, this]
  rw [e]
  omega

end Go.Proofs.YthflefdchgpbdaaDoor.Df

namespace Go.Proofs.YthflefdchgpbdaaDoor.Df
open Go.ChangeShapes Go.WideShapes Go.ChangeAt Go.RowKit Go.Proofs.YthflefdchgpbdaaDoor.Kit Go.Proofs.YthflefdchgpbdaaDoor.Bits

def Gives (v : Value) (w : World) (e : Ending) (w' : World) : Prop := e = .returned v ∧ Below w.heap.size w w'

theorem Laid.lt {g : Nat} {l : List Int} {w : World} (h : Laid g l w) (hl : 0 < l.length) : g < w.heap.size := World.block_lt_of_cell? _ _ (h 0 hl)
theorem Laid.below {g : Nat} {l : List Int} {w w' : World} (h : Laid g l w) (hl : 0 < l.length) (hb : Below w.heap.size w w') : Laid g l w' := fun k hk => (hb.cell (p := ⟨g, k, none⟩) (h.lt hl)).trans (h k hk)

theorem conv_any (w : World) (A : Option Addr) (xs : List Int) (c B : Nat) (hr : Holds w B .u8 A xs) :
    (convert 22 9 (.slice A xs.length c)).run Tryd.prog w = .ok (.string (strOfNums xs)) w :=
  conv_bytes Tryd.underlying22 Tryd.underlying5 Tryd.underlying9 w A xs c B hr

end Go.Proofs.YthflefdchgpbdaaDoor.Df
