/-
  Layer 16, plan: what takes bytes of a writing: contracts. Conditions: as each theorem names.
-/
import Derived.Test.YtjcofmeknpgjnaaPlK
import Derived.Test.YtjcofmeknpgjnaaPlE
namespace Go.Proofs.Ytjcofmeknpgjnaa.Pl
open Go.ChangeShapes Go.WideShapes Go.ChangeAt Go.RowKit Go.Proofs.Ytjcofmeknpgjnaa.Kit

/-- At block r these bytes are still to be taken; they lie below block B. -/
def Rest (w : World) (B r : Nat) (xs : List Int) : Prop :=
  B ≤ r ∧ ∃ A c, Block w r 55 #[.slice A xs.length c] ∧ xs.length ≤ c ∧ c ≤ maxLen ∧ Holds w B .u8 A xs

theorem holds_first {w : World} {B : Nat} {k : IntKind} {A : Option Addr} {xs : List Int} (n : Nat) (h : Holds w B k A xs) : Holds w B k A (xs.take n) := by
  intro hx
  rw [List.length_take] at hx
  obtain ⟨b, off, rfl, hb, hcs⟩ := h (by omega)
  refine ⟨b, off, rfl, hb, fun j hj => ?_⟩
  rw [List.length_take] at hj
  rw [hcs j (by omega)]
  simp [List.getD, List.getElem?_take, show j < n by omega]

theorem holds_from {w : World} {B : Nat} {k : IntKind} {A : Option Addr} {c q : Nat} {xs : List Int} (h : Holds w B k A xs) (hc : xs.length ≤ c) : Holds w B k (if c = q then A else A.map fun x => x.add q) (xs.drop q) := by
  intro hx
  rw [List.length_drop] at hx
  obtain ⟨b, off, rfl, hb, hcs⟩ := h (by omega)
  rw [if_neg (by omega)]
  refine ⟨b, off + q, by simp only [Option.map_some, Addr.add]; split <;> simp_all, hb, fun j hj => ?_⟩
  rw [List.length_drop] at hj
  rw [Nat.add_assoc, hcs (q + j) (by omega)]
  simp [List.getD]

/-- So many bytes were taken. -/
def Taken (xs : List Int) (n B r : Nat) (w : World) (e : Ending) (w' : World) : Prop :=
  ∃ A c, e = .returned (.slice A n c) ∧ n ≤ c ∧ c ≤ maxLen ∧ Holds w' B .u8 A (xs.take n) ∧ Rest w' B r (xs.drop n) ∧ TurnsIn (fun b => b = r) w w'

set_option maxHeartbeats 1600000 in
theorem take_ok (B r : Nat) (xs : List Int) (n : Nat) (w : World) (h : Rest w B r xs) (hB : B ≤ w.heap.size) (hl : xs.length ≤ 1000000) (hn : n ≤ xs.length) :
    Calls Try.prog 28 #[.pointer (some ⟨r, 0, none⟩), .int .i64 n] w (Taken xs n B r w) := by
  obtain ⟨hBr, A, c, blk, hc, hm, hr⟩ := h
  have c0 := blk.cellOf 0 (u := .slice A xs.length c) rfl
  have z0 := blk.frozen 0
  have hd : decide ((xs.length : Int) < (n : Int)) = false := decide_eq_false (by omega)
  have h5 : n ≤ c := by omega
  have hdl : (xs.drop n).length = xs.length - n := by simp
  have fin : ∀ (A2 : Option Addr) (c2 : Nat), A2 = (if c = n then A else A.map fun x => x.add n) → c2 = c - n → ∀ e, e = .returned (.slice A n c) → Taken xs n B r w e (w.setCell ⟨r, 0, none⟩ (.slice A2 (xs.length - n) c2)) := by
    rintro A2 c2 rfl rfl e rfl
    have t := (TurnsIn.refl (· = r) w).setCell (p := ⟨r, 0, none⟩) (.inl rfl) (.slice (if c = n then A else A.map fun x => x.add n) (xs.length - n) (c - n))
    have hr2 := hr.below (t.toBelow hB fun b hb he => by omega)
    refine ⟨A, c, rfl, h5, hm, holds_first n hr2, ⟨hBr, (if c = n then A else A.map fun x => x.add n), c - n, ?_, by rw [hdl]; omega, by omega, holds_from hr2 hc⟩, t⟩
    rw [hdl]
    exact blk.set_ 0 _
  have HF := Lib.hid fin
  clear fin hr hm hdl
  by_cases hcn : c = n
  · subst hcn
    go_enter Try.func28, Try.ntmps28
    go_wp2_with fail
    go_ret
    have hz := HF.out A 0 (by simp) (by simp) _ rfl
    rw [show xs.length - c = 0 by omega] at hz
    exact hz
  · go_enter Try.func28, Try.ntmps28
    go_wp2_with fail
    go_ret
    exact HF.out (A.map fun x => x.add n) (c - n) (by rw [if_neg hcn]) rfl _ rfl

/-- Bytes are missing: that is thrown. -/
def Misses (w : World) (e : Ending) (w' : World) : Prop := e = .panicked [{ v := .iface 50 (.agg #[]), recovered := false }] ∧ w = w'

set_option maxHeartbeats 1600000 in
theorem take_no (B r : Nat) (xs : List Int) (n : Int) (w : World) (h : Rest w B r xs) (hl : xs.length ≤ 1000000) (hn : (xs.length : Int) < n) :
    Calls Try.prog 28 #[.pointer (some ⟨r, 0, none⟩), .int .i64 n] w (Misses w) := by
  obtain ⟨hBr, A, c, blk, hc, hm, hr⟩ := h
  have c0 := blk.cellOf 0 (u := .slice A xs.length c) rfl
  have hd : decide ((xs.length : Int) < n) = true := decide_eq_true hn
  clear blk hr
  go_enter Try.func28, Try.ntmps28
  go_wp2_with fail
  exact ⟨rfl, rfl, rfl⟩
end Go.Proofs.Ytjcofmeknpgjnaa.Pl
