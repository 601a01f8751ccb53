/-
  Layer 2, octet: contracts of the program's and the document's functions. Conditions: as each theorem names.
-/
import Derived.Test.YtihdgeggfdjfgaaDoorRows
import Derived.Test.YtihdgeggfdjfgaaDoorOctM
import Derived.Test.YtihdgeggfdjfgaaDoorMem
import Derived.LoopTactic
namespace Go.Proofs.YtihdgeggfdjfgaaDoor.Oct
open Go.ChangeShapes Go.WideShapes Go.ChangeAt Go.RowKit Go.Proofs.YtihdgeggfdjfgaaDoor.Kit

theorem elem8 : IntElem Tryd.prog 38 5 .u8 1 := ⟨Tryd.underlying38, by kernel_rfl, by omega⟩

/-- n, brought between 1 and 8. -/
def clamp (n : Int) : Nat := if n < 1 then 1 else if 8 < n then 8 else n.toNat

theorem clamp_bd (n : Int) : 1 ≤ clamp n ∧ clamp n ≤ 8 := by unfold clamp; split <;> (try split) <;> omega

theorem put_any (A : Option Addr) (xs : List Int) (c B : Nat) (n x : Int) (w : World) (hn : xs.length ≤ 1000000) (hr : Holds w w.heap.size .u8 A xs) (hx : 0 ≤ x ∧ x < 18446744073709551616) :
    Calls Tryd.prog 11 #[.slice A xs.length c, .int .i64 n, .int .u64 x] w fun e w' => ∃ v, e = .returned v ∧ Own w' w.heap.size 5 .u8 v (xs ++ be (clamp n) x) ∧ Below w.heap.size w w' := by
  obtain ⟨p, hp⟩ : ∃ p, (if n < 1 then (1 : Int) else n) = p := ⟨_, rfl⟩
  have hq : (if 8 < p then (8 : Int) else p) = (clamp n : Int) := by subst hp; unfold clamp; split <;> split <;> (try split) <;> omega
  have hm := clamp_bd n
  generalize clamp n = m at *
  go_enter Tryd.func11, Tryd.ntmps11
  go_wp2_with (first
    | (at_make; refine wpList_make_ints _ rfl _ _ _ rfl elem8 xs.length (xs.length + m) rfl rfl rfl (by omega) (by omega) (by omega) ?_; intro w1 own1 hb1 hz1)
    | (have _t := own1; refine wpList_copy_ints _ rfl (.tmp 19) (.tmp 20) 38 rfl elem8 own1 rfl rfl (hr.below hb1) (by simp) (by omega) ?_; clear _t; intro w2 own2 hg2 hb2))
  have own3 : Own w2 w.heap.size 5 .u8 (.slice (some ⟨w.heap.size, 0, none⟩) xs.length (xs.length + m)) xs := by simpa using own2
  have hb3 := hb1.trans hb2
  clear own1 own2 hg2 hb1 hb2
  go_wp2_with fail
  go_loopw [7, 23] (fun v i wr => ∃ j : Nat, j ≤ m ∧ i = .int .i64 j ∧ Own wr w.heap.size 5 .u8 v (xs ++ (be m x).take j) ∧ Below w.heap.size w wr) (fun _ i _ => m - (intOf i).toNat)
  case atStart => exact ⟨0, Nat.zero_le _, rfl, by simpa using own3, hb3⟩
  case round =>
    obtain ⟨j, hj, rfl, own, hb⟩ := hrel
    by_cases hlt : j < m
    · have hsz := hb.size
      have e1 := be_take m x j hlt
      have hbx := byteAt_bd x (m - 1 - j)
      go_wp2_with (at_builtin; refine wpList_append_one _ rfl _ _ _ rfl elem8 own rfl rfl (by simp [be_length]; omega) (by omega) ?_; intro v2 w2 own2 hg2 hb2)
      go_roundw
      case rel => exact ⟨j + 1, by omega, by go_num, by rw [e1, ← List.append_assoc]; exact own2, hb.trans hb2⟩
      case measure => simp [intOf]; omega
    · go_wp2_with fail
      obtain rfl : j = m := by omega
      go_ret
      exact ⟨_, rfl, by rwa [List.take_of_length_le (by rw [be_length]; exact Nat.le_refl _)] at own, hb⟩

/-- What a caller of Put is told: a slice that reads zs. -/
def Reads (w : World) (zs : List Int) (e : Ending) (w' : World) : Prop :=
  ∃ (A : Option Addr) (c : Nat), e = .returned (.slice A zs.length c) ∧ zs.length ≤ c ∧ c ≤ maxLen ∧ Holds w' w'.heap.size .u8 A zs ∧ Below w.heap.size w w'

theorem put_as (A : Option Addr) (xs zs : List Int) (c : Nat) (n x : Int) (w : World) (hz : xs ++ be (clamp n) x = zs) (hn : xs.length ≤ 1000000) (hr : Holds w w.heap.size .u8 A xs) (hx : 0 ≤ x ∧ x < 18446744073709551616) :
    Calls Tryd.prog 11 #[.slice A xs.length c, .int .i64 n, .int .u64 x] w (Reads w zs) :=
  (put_any A xs c 0 n x w hn hr hx).mono fun e w' ⟨v, he, own, hb⟩ => by
    subst hz
    obtain ⟨A', c', rfl, hl, hm, hr'⟩ := own.opened
    exact ⟨A', c', he, hl, hm, hr', hb⟩

end Go.Proofs.YtihdgeggfdjfgaaDoor.Oct
