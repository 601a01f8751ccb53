/-
  How many bits a number has: math/bits.Len64, by the library's own contract. Conditions: as each theorem names.
-/
import Derived.Test.YtofbbajepdcaiaaGreatDoorProg
import Derived.Shelf.Strconv.Itoa0
namespace Go.Proofs.YtofbbajepdcaiaaGreatDoor.Mk
open Go Go.Shelf

/-- Where the library's numbers lie here. -/
def ren : Ren := ⟨fun _ => 17, fun t => if t = 46 then 34 else if t = 53 then 22 else if t = 3 then 3 else if t = 4 then 4 else if t = 5 then 5 else 9, fun g => g⟩

theorem lays : Lays.n129 Tryz.prog ren := {
  mixed := by kernel_rfl
  f129 := by kernel_rfl
  t3 := by kernel_rfl
  a3 := fun _ => by kernel_rfl
  z3 := fun _ => by kernel_rfl
  v3 := fun _ => by kernel_rfl
  t4 := by kernel_rfl
  a4 := fun _ => by kernel_rfl
  z4 := fun _ => by kernel_rfl
  v4 := fun _ => by kernel_rfl
  t5 := by kernel_rfl
  a5 := fun _ => by kernel_rfl
  z5 := fun _ => by kernel_rfl
  v5 := fun _ => by kernel_rfl
  t9 := by kernel_rfl
  a9 := fun _ => by kernel_rfl
  z9 := fun _ => by kernel_rfl
  v9 := fun _ => by kernel_rfl
  t46 := by kernel_rfl
  a46 := fun _ => by kernel_rfl
  z46 := fun _ => by kernel_rfl
  v46 := fun _ => by kernel_rfl
  t53 := by kernel_rfl
  a53 := fun _ => by kernel_rfl
  z53 := fun _ => by kernel_rfl
  v53 := fun _ => by kernel_rfl
}

theorem len64_all (x : Nat) (w : World) (hx : x < 18446744073709551616) : Calls Tryz.prog 17 #[.int .u64 x] w fun e w' => e = .returned (.int .i64 (Lib.bitLen x)) ∧ w = w' :=
  (Any.bits_Len64 lays x w (by omega) (by omega)).mono fun e w' ⟨h1, h2⟩ => ⟨by rw [h1, Int.toNat_natCast], h2.symm⟩
end Go.Proofs.YtofbbajepdcaiaaGreatDoor.Mk
