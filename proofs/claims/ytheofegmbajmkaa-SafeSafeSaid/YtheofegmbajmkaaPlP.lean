/-
  Layer 16, plan: plans as bytes: both functions, one answer. Conditions: as each theorem names.
-/
import Derived.Test.YtheofegmbajmkaaPlN
import Derived.Test.YtheofegmbajmkaaStr
import Derived.Deep.RegionLaw
import Derived.Deep.RegionWith
import Derived.Deep.DeepCutAuto
namespace Go.Proofs.Ytheofegmbajmkaa.Pl
open Go.ChangeShapes Go.WideShapes Go.ChangeAt Go.RowKit Go.Proofs.Ytheofegmbajmkaa.Kit

/-- The steps at A, of this program's kinds. -/
def HoldsS (w : World) (A : Option Addr) (ss : List Stp) : Prop := HoldsE (StpIn .u8 .i64 .i64 w w.heap.size) 4 w w.heap.size A ss

def rightS (s : Stp) : Bool := rightB s.a s.b s.x s.zs.length
def putS (s : Stp) : List Int := [s.a] ++ numB s.x ++ (if s.a = 1 then [] else numB s.b) ++ s.zs
def putB (ss : List Stp) : List Int := ss.flatMap putS

theorem putB_snoc (l : List Stp) (s : Stp) : putB (l ++ [s]) = putB l ++ putS s := by simp [putB]
theorem putS_length (s : Stp) : (putS s).length ≤ 20 + s.zs.length ∧ 1 ≤ (putS s).length := by
  have h1 := numB_length s.x
  have h2 := numB_length s.b
  unfold putS
  by_cases h : s.a = 1
  · rw [if_pos h]; simp; omega
  · rw [if_neg h]; simp; omega

theorem right_data {s : Stp} (h : rightS s = true) : s.zs.length ≤ 4096 := by
  unfold rightS rightB at h
  have := of_decide_eq_true h
  omega

theorem putB_bd : ∀ (ss : List Stp), ss.all rightS = true → (putB ss).length ≤ 5000 * ss.length
  | [], _ => by simp [putB]
  | s :: ss, h => by
    simp only [List.all_cons, Bool.and_eq_true] at h
    have h1 := putB_bd ss h.2
    have h2 := putS_length s
    have h3 := right_data h.1
    simp only [putB, List.flatMap_cons, List.length_append, List.length_cons] at h1 ⊢
    omega

theorem all_take {ss : List Stp} (h : ss.all rightS = true) (i : Nat) : (ss.take i).all rightS = true := by
  rw [List.all_eq_true] at h ⊢
  exact fun x hx => h x (List.mem_of_mem_take hx)

theorem take_next {ss : List Stp} {i : Nat} (h : i < ss.length) : ss.take (i + 1) = ss.take i ++ [ss[i]] := by
  rw [List.take_succ_eq_append_getElem h]

set_option maxHeartbeats 1600000 in
theorem are_any (A : Option Addr) (ss : List Stp) (c : Nat) (w : World) (hc : ss.length ≤ c) (hm : c ≤ maxLen) (hr : HoldsS w A ss) :
    Calls Try.prog 34 #[.slice A ss.length c] w (Gives (.bool (ss.all rightS)) w) := by
  unfold maxLen at hm
  cases hall : ss.all rightS with
  | true =>
    have hall' := fun (i : Nat) (h : i < ss.length) => List.all_eq_true.1 hall ss[i] (List.getElem_mem h)
    go_enter Try.func34, Try.ntmps34
    go_wp2_with fail
    go_loopw [7] (fun s wr => ∃ i : Nat, i ≤ ss.length ∧ s = .int .i64 i ∧ Below w.heap.size w wr) (fun s _ => ss.length - (intOf s).toNat)
    case atStart => exact ⟨0, Nat.zero_le _, rfl, Below.refl _ _⟩
    case round =>
      obtain ⟨i, hi, rfl, hb⟩ := hrel
      by_cases hlt : i < ss.length
      · have hri := hall' i hlt
        obtain ⟨b, off, rfl, hbl, c0, c1, c2, c3, k0, k1, k2, h1, h2, hoz, hrz⟩ := stepAt (steps_below hr hb) hlt
        unfold rightS at hri
        generalize ss[i] = s at *
        obtain ⟨a, n, x, Az, cz, zs⟩ := s
        simp only at c0 c1 c2 c3 hri
        have G := Lib.hid (fun W => hri ▸ right_any a n x Az zs.length cz W)
        clear hall' hri k0 k1 k2 h1 h2 hoz hrz
        go_wp2_with (go_at_call 28; refine (G.out _).mono ?_; rintro e w2 ⟨rfl, hb2⟩; have hb3 := (hb.alloc hb.size (.cells #[.int .u8 a, .int .i64 n, .int .i64 x, .slice Az zs.length cz] 41)).trans (hb2.mono (by simp; have := hb.size; omega)))
        go_roundw
        case rel => exact ⟨i + 1, by omega, by go_num, hb3⟩
        case measure => simp [intOf] <;> omega
      · go_wp2_with fail
        go_ret
        exact ⟨rfl, hb⟩
  | false =>
    go_enter Try.func34, Try.ntmps34
    go_wp2_with fail
    go_loopw [7] (fun s wr => ∃ i : Nat, i ≤ ss.length ∧ s = .int .i64 i ∧ (ss.take i).all rightS = true ∧ Below w.heap.size w wr) (fun s _ => ss.length - (intOf s).toNat)
    case atStart => exact ⟨0, Nat.zero_le _, rfl, by simp, Below.refl _ _⟩
    case round =>
      obtain ⟨i, hi, rfl, hpre, hb⟩ := hrel
      by_cases hlt : i < ss.length
      · obtain ⟨b, off, rfl, hbl, c0, c1, c2, c3, k0, k1, k2, h1, h2, hoz, hrz⟩ := stepAt (steps_below hr hb) hlt
        have hnext := take_next hlt
        generalize ss[i] = s at *
        cases hri : rightS s with
        | true =>
          have hpre2 : (ss.take (i + 1)).all rightS = true := by rw [hnext, List.all_append, hpre]; simp [hri]
          have HP := Lib.hid hpre2
          unfold rightS at hri
          obtain ⟨a, n, x, Az, cz, zs⟩ := s
          simp only at c0 c1 c2 c3 hri
          have G := Lib.hid (fun W => hri ▸ right_any a n x Az zs.length cz W)
          clear hri k0 k1 k2 h1 h2 hoz hrz hnext hpre hpre2
          go_wp2_with (go_at_call 28; refine (G.out _).mono ?_; rintro e w2 ⟨rfl, hb2⟩; have hb3 := (hb.alloc hb.size (.cells #[.int .u8 a, .int .i64 n, .int .i64 x, .slice Az zs.length cz] 41)).trans (hb2.mono (by simp; have := hb.size; omega)))
          go_roundw
          case rel => exact ⟨i + 1, by omega, by go_num, HP.out, hb3⟩
          case measure => simp [intOf] <;> omega
        | false =>
          unfold rightS at hri
          obtain ⟨a, n, x, Az, cz, zs⟩ := s
          simp only at c0 c1 c2 c3 hri
          have G := Lib.hid (fun W => hri ▸ right_any a n x Az zs.length cz W)
          clear hri k0 k1 k2 h1 h2 hoz hrz hnext hpre
          go_wp2_with (go_at_call 28; refine (G.out _).mono ?_; rintro e w2 ⟨rfl, hb2⟩; have hb3 := (hb.alloc hb.size (.cells #[.int .u8 a, .int .i64 n, .int .i64 x, .slice Az zs.length cz] 41)).trans (hb2.mono (by simp; have := hb.size; omega)))
          go_ret
          exact ⟨rfl, hb3⟩
      · obtain rfl : i = ss.length := by omega
        rw [List.take_of_length_le (Nat.le_refl _), hall] at hpre
        cases hpre

/-- What Put gives of right steps. -/
def PutsB (ss : List Stp) (w : World) (e : Ending) (w' : World) : Prop :=
  ∃ A c, e = .returned (.tuple #[.slice A (putB ss).length c, .int .i64 0]) ∧ Own w' w.heap.size 5 .u8 (.slice A (putB ss).length c) (putB ss) ∧ Below w.heap.size w w'

end Go.Proofs.Ytheofegmbajmkaa.Pl
