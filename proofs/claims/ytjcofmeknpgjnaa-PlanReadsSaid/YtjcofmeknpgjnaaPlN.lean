/-
  Layer 16, plan: numbers as bytes: both functions, one answer. Conditions: as each theorem names.
-/
import Derived.Test.YtjcofmeknpgjnaaPlR
import Derived.Test.YtjcofmeknpgjnaaApp
import Derived.Laws.BitsAllLaws
namespace Go.Proofs.Ytjcofmeknpgjnaa.Pl
open Go.ChangeShapes Go.WideShapes Go.ChangeAt Go.RowKit Go.Proofs.Ytjcofmeknpgjnaa.Kit

theorem elem8 : IntElem Try.prog 26 5 .u8 1 := ⟨Try.underlying26, by kernel_rfl, by omega⟩

/-- A number, seven bits a byte, the lowest first; all but the last have 128 more. -/
def numF : Nat → Int → List Int
  | 0, n => [n]
  | f + 1, n => if n < 128 then [n] else (128 + n % 128) :: numF f (n / 128)
def numB (n : Int) : List Int := numF 8 n

theorem numF_length : ∀ (f : Nat) (n : Int), 1 ≤ (numF f n).length ∧ (numF f n).length ≤ f + 1
  | 0, n => by simp [numF]
  | f + 1, n => by
    have := numF_length f (n / 128)
    rw [numF]
    split <;> simp <;> omega
theorem numB_length (n : Int) : 1 ≤ (numB n).length ∧ (numB n).length ≤ 9 := numF_length 8 n
theorem numF_octets : ∀ (f : Nat) (n : Int), 0 ≤ n → n < 128 ^ (f + 1) → Octets (numF f n)
  | 0, n, h0, h1 => by
    intro x hx
    simp [numF] at hx
    subst hx
    simp at h1
    omega
  | f + 1, n, h0, h1 => by
    intro x hx
    rw [numF] at hx
    split at hx
    · simp at hx; omega
    · rcases List.mem_cons.1 hx with rfl | hx
      · omega
      · exact numF_octets f (n / 128) (by omega) (by rw [Int.pow_succ] at h1; exact Int.ediv_lt_of_lt_mul (by omega) (by omega)) x hx

theorem or128 (y : Int) (h : 0 ≤ y ∧ y ≤ 255) : bits BinOp.or IntKind.u8 y 128 = 128 + y % 128 := by
  obtain ⟨n, rfl⟩ := Int.eq_ofNat_of_zero_le h.1
  have e : ∀ a, a < 256 → a ||| 128 = 128 + a % 128 := by decide +kernel
  have := e n (by omega)
  rw [show (128 : Int) = ((128 : Nat) : Int) from rfl, u8_or_nat _ _ (by omega) (by omega), this]
  omega

/-- What number gives: the row, longer. -/
def Longer (B : Nat) (v : Value) (xs : List Int) (w : World) (e : Ending) (w' : World) : Prop :=
  ∃ A' c', e = .returned (.slice A' xs.length c') ∧ Own w' B 5 .u8 (.slice A' xs.length c') xs ∧ TurnsIn (fun b => v.ownBlock = some b) w w' ∧ Newer w v (.slice A' xs.length c')

theorem TurnsIn.own {w w1 w2 : World} {v v1 : Value} (t1 : TurnsIn (fun b => v.ownBlock = some b) w w1) (n1 : Newer w v v1) (t2 : TurnsIn (fun b => v1.ownBlock = some b) w1 w2) : TurnsIn (fun b => v.ownBlock = some b) w w2 :=
  t1.then_ t2 fun b hb hv => by
    rcases n1 with h | h
    · rw [← h]; exact hv
    · have := h b hv; omega

set_option maxHeartbeats 1600000 in
theorem number_any (B : Nat) (v : Value) (xs : List Int) (x : Int) (w : World) (hx : 0 ≤ x ∧ x ≤ 9223372036854775807) (hB : B ≤ w.heap.size) (hl : xs.length ≤ 10000000) (hown : Own w B 5 .u8 v xs) :
    Calls Try.prog 21 #[v, .int .i64 x] w (Longer B v (xs ++ numB x) w) := by
  obtain ⟨A, c, rfl, _, _, _⟩ := hown.opened
  have hN := (numB_length x).2
  have hp9 : x < 128 ^ (8 + 1) := by
    have h : (128 : Int) ^ (8 + 1) = 9223372036854775808 := by decide
    omega
  go_enter Try.func21, Try.ntmps21
  go_wp2_with fail
  go_loopw [0, 1] (fun u s wr => ∃ (f : Nat) (y : Int) (zs : List Int) (A' : Option Addr) (c' : Nat), s = .int .i64 y ∧ u = .slice A' zs.length c' ∧ 0 ≤ y ∧ y ≤ x ∧ y < 128 ^ (f + 1) ∧ zs ++ numF f y = xs ++ numB x ∧ zs.length + f ≤ xs.length + 8 ∧
    Own wr B 5 .u8 (.slice A' zs.length c') zs ∧ TurnsIn (fun b => (Value.slice A xs.length c).ownBlock = some b) w wr ∧ Newer w (.slice A xs.length c) (.slice A' zs.length c')) (fun _ s _ => (intOf s).toNat)
  case atStart => exact ⟨8, x, xs, A, c, rfl, rfl, hx.1, Int.le_refl _, hp9, rfl, by omega, hown, TurnsIn.refl _ _, Newer.refl _ _⟩
  case round =>
    obtain ⟨f, y, zs, A', c', rfl, rfl, h0, hyx, hy, hz, hzl, own1, t1, n1⟩ := hrel
    have hBr : B ≤ wr.heap.size := Nat.le_trans hB t1.size
    have Hz := Lib.hid hz
    have ho := or128 (y % 256) (by omega)
    have hmm : y % 256 % 128 = y % 128 := by omega
    rw [hmm] at ho
    clear hz
    by_cases h128 : 128 ≤ y
    · have hd : decide ((128 : Int) ≤ y) = true := decide_eq_true h128
      cases f with
      | zero => simp at hy; omega
      | succ f =>
        have hnext : numF (f + 1) y = (128 + y % 128) :: numF f (y / 128) := by rw [numF, if_neg (by omega)]
        have hy2 : y / 128 < 128 ^ (f + 1) := by rw [Int.pow_succ] at hy; exact Int.ediv_lt_of_lt_mul (by omega) (by omega)
        have Hn := Lib.hid hnext
        have Hy := Lib.hid hy2
        clear hnext hy hy2 hmm
        go_wp2_with (at_builtin; refine wpList_append_one_out (z := 128 + y % 128) _ rfl _ _ _ rfl elem8 own1 rfl rfl (by omega) hBr ?_; intro A5 c5 w5 own5 t5 n5)
        go_roundw
        case rel => exact ⟨f, y / 128, zs ++ [128 + y % 128], A5, c5, rfl, by simp, by omega, by omega, Hy.out, by rw [← Hz.out, Hn.out]; simp, by simp; omega, by simpa using own5, TurnsIn.own t1 n1 t5, by simpa using n1.trans t1.size n5⟩
        case measure => simp [intOf] <;> omega
    · have hd : decide ((128 : Int) ≤ y) = false := decide_eq_false h128
      have hlast : numF f y = [y] := by cases f <;> simp [numF]; omega
      have Hl := Lib.hid hlast
      have hb : y % 256 = y := by omega
      clear hlast hmm
      go_wp2_with (at_builtin; refine wpList_append_one_out (z := y) _ rfl _ _ _ rfl elem8 own1 rfl rfl (by omega) hBr ?_; intro A5 c5 w5 own5 t5 n5)
      go_ret
      have hq : zs ++ [y] = xs ++ numB x := by rw [← Hz.out, Hl.out]
      have hq2 : zs.length + 1 = (xs ++ numB x).length := by rw [← hq]; simp
      rw [hq, hq2] at own5
      rw [hq2] at n5
      rw [hq2]
      exact ⟨A5, c5, rfl, own5, TurnsIn.own t1 n1 t5, n1.trans t1.size n5⟩
end Go.Proofs.Ytjcofmeknpgjnaa.Pl
