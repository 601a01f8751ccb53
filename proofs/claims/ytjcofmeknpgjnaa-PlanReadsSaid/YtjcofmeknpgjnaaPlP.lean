/-
  Layer 16, plan: plans as bytes: both functions, one answer. Conditions: as each theorem names.
-/
import Derived.Test.YtjcofmeknpgjnaaPlN
import Derived.Test.YtjcofmeknpgjnaaStr
import Derived.Deep.RegionLaw
import Derived.Deep.RegionWith
import Derived.Deep.DeepCutAuto
namespace Go.Proofs.Ytjcofmeknpgjnaa.Pl
open Go.ChangeShapes Go.WideShapes Go.ChangeAt Go.RowKit Go.Proofs.Ytjcofmeknpgjnaa.Kit

/-- The steps at A, of this program's kinds. -/
def HoldsS (w : World) (A : Option Addr) (ss : List Stp) : Prop := HoldsE (StpIn .u8 .i64 .i64 w w.heap.size) 4 w w.heap.size A ss

def rightS (s : Stp) : Bool := rightB s.a s.b s.x s.zs.length
def putS (s : Stp) : List Int := [s.a] ++ numB s.x ++ (if s.a = 1 then [] else numB s.b) ++ s.zs
def putB (ss : List Stp) : List Int := ss.flatMap putS

theorem putB_snoc (l : List Stp) (s : Stp) : putB (l ++ [s]) = putB l ++ putS s := by simp [putB]
theorem putS_length (s : Stp) : (putS s).length ≤ 20 + s.zs.length ∧ 1 ≤ (putS s).length := by
  have h1 := numB_length s.x
  have h2 := numB_length s.b
  unfold putS
  by_cases h : s.a = 1
  · rw [if_pos h]; simp; omega
  · rw [if_neg h]; simp; omega

theorem right_data {s : Stp} (h : rightS s = true) : s.zs.length ≤ 4096 := by
  unfold rightS rightB at h
  have := of_decide_eq_true h
  omega

theorem putB_bd : ∀ (ss : List Stp), ss.all rightS = true → (putB ss).length ≤ 5000 * ss.length
  | [], _ => by simp [putB]
  | s :: ss, h => by
    simp only [List.all_cons, Bool.and_eq_true] at h
    have h1 := putB_bd ss h.2
    have h2 := putS_length s
    have h3 := right_data h.1
    simp only [putB, List.flatMap_cons, List.length_append, List.length_cons] at h1 ⊢
    omega

theorem all_take {ss : List Stp} (h : ss.all rightS = true) (i : Nat) : (ss.take i).all rightS = true := by
  rw [List.all_eq_true] at h ⊢
  exact fun x hx => h x (List.mem_of_mem_take hx)

theorem take_next {ss : List Stp} {i : Nat} (h : i < ss.length) : ss.take (i + 1) = ss.take i ++ [ss[i]] := by
  rw [List.take_succ_eq_append_getElem h]

set_option maxHeartbeats 1600000 in
theorem are_any (A : Option Addr) (ss : List Stp) (c : Nat) (w : World) (hc : ss.length ≤ c) (hm : c ≤ maxLen) (hr : HoldsS w A ss) :
    Calls Try.prog 20 #[.slice A ss.length c] w (Gives (.bool (ss.all rightS)) w) := by
  unfold maxLen at hm
  cases hall : ss.all rightS with
  | true =>
    have hall' := fun (i : Nat) (h : i < ss.length) => List.all_eq_true.1 hall ss[i] (List.getElem_mem h)
    go_enter Try.func20, Try.ntmps20
    go_wp2_with fail
    go_loopw [7] (fun s wr => ∃ i : Nat, i ≤ ss.length ∧ s = .int .i64 i ∧ Below w.heap.size w wr) (fun s _ => ss.length - (intOf s).toNat)
    case atStart => exact ⟨0, Nat.zero_le _, rfl, Below.refl _ _⟩
    case round =>
      obtain ⟨i, hi, rfl, hb⟩ := hrel
      by_cases hlt : i < ss.length
      · have hri := hall' i hlt
        obtain ⟨b, off, rfl, hbl, c0, c1, c2, c3, k0, k1, k2, h1, h2, hoz, hrz⟩ := stepAt (steps_below hr hb) hlt
        unfold rightS at hri
        generalize ss[i] = s at *
        obtain ⟨a, n, x, Az, cz, zs⟩ := s
        simp only at c0 c1 c2 c3 hri
        have G := Lib.hid (fun W => hri ▸ right_any a n x Az zs.length cz W)
        clear hall' hri k0 k1 k2 h1 h2 hoz hrz
        go_wp2_with (go_at_call 9; refine (G.out _).mono ?_; rintro e w2 ⟨rfl, hb2⟩; have hb3 := (hb.alloc hb.size (.cells #[.int .u8 a, .int .i64 n, .int .i64 x, .slice Az zs.length cz] 28)).trans (hb2.mono (by simp; have := hb.size; omega)))
        go_roundw
        case rel => exact ⟨i + 1, by omega, by go_num, hb3⟩
        case measure => simp [intOf] <;> omega
      · go_wp2_with fail
        go_ret
        exact ⟨rfl, hb⟩
  | false =>
    go_enter Try.func20, Try.ntmps20
    go_wp2_with fail
    go_loopw [7] (fun s wr => ∃ i : Nat, i ≤ ss.length ∧ s = .int .i64 i ∧ (ss.take i).all rightS = true ∧ Below w.heap.size w wr) (fun s _ => ss.length - (intOf s).toNat)
    case atStart => exact ⟨0, Nat.zero_le _, rfl, by simp, Below.refl _ _⟩
    case round =>
      obtain ⟨i, hi, rfl, hpre, hb⟩ := hrel
      by_cases hlt : i < ss.length
      · obtain ⟨b, off, rfl, hbl, c0, c1, c2, c3, k0, k1, k2, h1, h2, hoz, hrz⟩ := stepAt (steps_below hr hb) hlt
        have hnext := take_next hlt
        generalize ss[i] = s at *
        cases hri : rightS s with
        | true =>
          have hpre2 : (ss.take (i + 1)).all rightS = true := by rw [hnext, List.all_append, hpre]; simp [hri]
          have HP := Lib.hid hpre2
          unfold rightS at hri
          obtain ⟨a, n, x, Az, cz, zs⟩ := s
          simp only at c0 c1 c2 c3 hri
          have G := Lib.hid (fun W => hri ▸ right_any a n x Az zs.length cz W)
          clear hri k0 k1 k2 h1 h2 hoz hrz hnext hpre hpre2
          go_wp2_with (go_at_call 9; refine (G.out _).mono ?_; rintro e w2 ⟨rfl, hb2⟩; have hb3 := (hb.alloc hb.size (.cells #[.int .u8 a, .int .i64 n, .int .i64 x, .slice Az zs.length cz] 28)).trans (hb2.mono (by simp; have := hb.size; omega)))
          go_roundw
          case rel => exact ⟨i + 1, by omega, by go_num, HP.out, hb3⟩
          case measure => simp [intOf] <;> omega
        | false =>
          unfold rightS at hri
          obtain ⟨a, n, x, Az, cz, zs⟩ := s
          simp only at c0 c1 c2 c3 hri
          have G := Lib.hid (fun W => hri ▸ right_any a n x Az zs.length cz W)
          clear hri k0 k1 k2 h1 h2 hoz hrz hnext hpre
          go_wp2_with (go_at_call 9; refine (G.out _).mono ?_; rintro e w2 ⟨rfl, hb2⟩; have hb3 := (hb.alloc hb.size (.cells #[.int .u8 a, .int .i64 n, .int .i64 x, .slice Az zs.length cz] 28)).trans (hb2.mono (by simp; have := hb.size; omega)))
          go_ret
          exact ⟨rfl, hb3⟩
      · obtain rfl : i = ss.length := by omega
        rw [List.take_of_length_le (Nat.le_refl _), hall] at hpre
        cases hpre

/-- What Put gives of right steps. -/
def PutsB (ss : List Stp) (w : World) (e : Ending) (w' : World) : Prop :=
  ∃ A c, e = .returned (.tuple #[.slice A (putB ss).length c, .int .i64 0]) ∧ Own w' w.heap.size 5 .u8 (.slice A (putB ss).length c) (putB ss) ∧ Below w.heap.size w w'

set_option maxHeartbeats 800000 in
theorem put_no (A : Option Addr) (ss : List Stp) (c : Nat) (w : World) (hc : ss.length ≤ c) (hm : c ≤ maxLen) (hr : HoldsS w A ss) (h : ss.all rightS = false) :
    Calls Try.prog 11 #[.slice A ss.length c] w (Gives (.tuple #[.slice none 0 0, .int .i64 3]) w) := by
  have G := Lib.hid (h ▸ are_any A ss c w hc hm hr)
  clear h
  go_enter Try.func11, Try.ntmps11
  go_wp2_with (go_at_call 20; refine G.out.mono ?_; rintro e w2 ⟨rfl, hb2⟩)
  go_ret2
  exact ⟨rfl, hb2⟩

set_option maxRecDepth 100000 in
set_option maxHeartbeats 6400000 in
theorem put_yes (A : Option Addr) (ss : List Stp) (c : Nat) (w : World) (hl : ss.length ≤ 1000) (hc : ss.length ≤ c) (hm : c ≤ maxLen) (hr : HoldsS w A ss) (h : ss.all rightS = true) :
    Calls Try.prog 11 #[.slice A ss.length c] w (PutsB ss w) := by
  unfold maxLen at hm
  have G := Lib.hid (h ▸ are_any A ss c w hc (by unfold maxLen; omega) hr)
  have hall := fun (i : Nat) (hi : i < ss.length) => List.all_eq_true.1 h ss[i] (List.getElem_mem hi)
  have hbd := fun (i : Nat) => putB_bd (ss.take i) (all_take h i)
  clear h
  go_enter Try.func11, Try.ntmps11
  go_wp2_with (go_at_call 20; refine G.out.mono ?_; rintro e w1 ⟨rfl, hb1⟩)
  go_loopw [4, 12] (fun v s wr => ∃ (i : Nat) (A' : Option Addr) (c' : Nat), i ≤ ss.length ∧ s = .int .i64 i ∧ v = .slice A' (putB (ss.take i)).length c' ∧ Own wr w.heap.size 5 .u8 (.slice A' (putB (ss.take i)).length c') (putB (ss.take i)) ∧ Below w.heap.size w wr) (fun _ s _ => ss.length - (intOf s).toNat)
  case atStart => exact ⟨0, none, 0, Nat.zero_le _, rfl, by simp [putB], by simpa [putB] using Own.nil w1 w.heap.size 5 .u8, hb1⟩
  case round =>
    obtain ⟨i, A', c', hi, rfl, rfl, own, hb⟩ := hrel
    by_cases hlt : i < ss.length
    · have hri := hall i hlt
      obtain ⟨b, off, rfl, hbl, c0, c1, c2, c3, k0, k1, k2, h1, h2, hoz, hrz⟩ := stepAt (steps_below hr hb) hlt
      have hnext : putB (ss.take (i + 1)) = putB (ss.take i) ++ putS ss[i] := by rw [take_next hlt, putB_snoc]
      have hbi := hbd i
      have hd := right_data hri
      rw [List.length_take] at hbi
      generalize ss[i] = s at *
      obtain ⟨a, n, x, Az, cz, zs⟩ := s
      simp only at c0 c1 c2 c3 k0 k1 k2 hrz hd
      have hps : putS ⟨a, n, x, Az, cz, zs⟩ = [a] ++ numB x ++ (if a = 1 then [] else numB n) ++ zs := rfl
      rw [hps] at hnext
      unfold rightS rightB at hri
      have hri := of_decide_eq_true hri
      simp only at hri
      generalize putB (ss.take i) = xs at *
      have hxl : xs.length ≤ 5000000 := by omega
      have hxx : 0 ≤ x ∧ x ≤ 9223372036854775807 := by omega
      have hnn : 0 ≤ n ∧ n ≤ 9223372036854775807 := by omega
      have hN1 := numB_length x
      have hN2 := numB_length n
      have HN := Lib.hid hnext
      have HR := Lib.hid hri
      clear hall hbd hri hps hnext k0 k1 k2 hbi
      have blk := Block.new wr 28 #[.int .u8 a, .int .i64 n, .int .i64 x, .slice Az zs.length cz]
      have ownA := own.alloc (.cells #[.int .u8 a, .int .i64 n, .int .i64 x, .slice Az zs.length cz] 28)
      have hbA := hb.alloc hb.size (.cells #[.int .u8 a, .int .i64 n, .int .i64 x, .slice Az zs.length cz] 28)
      have hrA := hrz.below ((Below.refl w.heap.size wr).alloc hb.size (.cells #[.int .u8 a, .int .i64 n, .int .i64 x, .slice Az zs.length cz] 28))
      go_wp2_with fail
      clear c0 c1 c2 c3 own hrz
      generalize wr.alloc (.cells #[.int .u8 a, .int .i64 n, .int .i64 x, .slice Az zs.length cz] 28) = wa at *
      have q0 : wa.cell? ⟨wr.heap.size, 0, none⟩ = some (.int .u8 a) := blk.cell 0
      have q2 : wa.cell? ⟨wr.heap.size, 2, none⟩ = some (.int .i64 x) := blk.cell 2
      have qa : ∀ o, (wa.alloc o).cell? ⟨wr.heap.size, 2, none⟩ = some (.int .i64 x) := fun o => (blk.alloc o).cell 2
      have hBa := hbA.size
      obtain ⟨ys, hys⟩ : ∃ ys, xs ++ [a] ++ numB x = ys := ⟨_, rfl⟩
      have hyl : ys.length ≤ 5000100 := by rw [← hys]; simp; omega
      have GN := Lib.hid (fun (v : Value) (W : World) (h1 : w.heap.size ≤ W.heap.size) (h2 : Own W w.heap.size 5 .u8 v (xs ++ [a])) => hys ▸ number_any w.heap.size v (xs ++ [a]) x W hxx h1 (by simp; omega) h2)
      have HY := Lib.hid hys
      clear hys
      go_cut [4] (fun v wx => ∃ (A6 : Option Addr) (c6 : Nat), v = .slice A6 ys.length c6 ∧ Own wx w.heap.size 5 .u8 (.slice A6 ys.length c6) ys ∧ Block wx wr.heap.size 28 #[.int .u8 a, .int .i64 n, .int .i64 x, .slice Az zs.length cz] ∧ Below w.heap.size wa wx)
      case first =>
        go_region_law (first
          | (refine step_append_one_drew (z := a) (by rfl) _ _ _ (by rfl) elem8 (by exact ownA) (by rfl) (by rfl) (by omega) hBa (by exact blk) (by decide) ?_; intro A5 c5 w5 own5 tu5 ne5 blk5; have s2 := blk5.cell 2; have hb5 := ownA.turned tu5 hBa; have hs5 := Nat.le_trans hBa hb5.size)
          | (go_simp; go_at_call 21; refine (GN.out _ w5 hs5 own5).mono ?_; rintro e w6 ⟨A6, c6, rfl, own6, tu6, ne6⟩; have blk6 := blk5.apart own5 (by decide) tu6; have hb6 := own5.turned tu6 hs5))
        all_goals (go_wp2_with fail; go_meet; exact ⟨A6, c6, rfl, own6, blk6, hb5.trans hb6⟩)
      case rest =>
        obtain ⟨A6, c6, rfl, own6, blk6, hb6⟩ := hcut
        clear q0 q2 qa blk ownA GN
        have q0 := blk6.cellOf 0 (u := .int .u8 a) rfl
        have q1 := blk6.cellOf 1 (u := .int .i64 n) rfl
        have q3 := blk6.cellOf 3 (u := .slice Az zs.length cz) rfl
        have hb06 := hbA.trans hb6
        have hr6 := hrA.below hb6
        have hs6 := hb06.size
        by_cases ha : a = 1
        · subst ha
          go_wp2_with (at_builtin; refine wpList_append_out (ys := zs) _ rfl _ _ _ rfl elem8 own6 rfl rfl hr6 (by omega) hs6 ?_; intro A7 c7 w7 own7 tu7 ne7)
          have hb7 := own6.turned tu7 hs6
          have hfin : putB (ss.take (i + 1)) = ys ++ zs := by rw [HN.out, if_pos rfl, ← HY.out]; simp
          go_roundw
          case rel => exact ⟨i + 1, A7, c7, by omega, by go_num, by rw [hfin]; simp, by rw [hfin]; simpa using own7, hb06.trans hb7⟩
          case measure => simp [intOf] <;> omega
        · have hne : (a != 1) = true := by simp [ha]
          obtain ⟨us, hus⟩ : ∃ us, ys ++ numB n = us := ⟨_, rfl⟩
          have hul : us.length ≤ 5000200 := by rw [← hus]; simp; omega
          have GM := Lib.hid (hus ▸ number_any w.heap.size (.slice A6 ys.length c6) ys n _ hnn hs6 (by omega) own6)
          have HU := Lib.hid hus
          clear hus
          go_wp2_with (first
            | (go_at_call 21; refine GM.out.mono ?_; rintro e w7 ⟨A7, c7, rfl, own7, tu7, ne7⟩; have blk7 := blk6.apart own6 (by decide) tu7; have hb7 := own6.turned tu7 hs6; have hr7 := hr6.below hb7; have hs7 := Nat.le_trans hs6 hb7.size; have s3 : w7.cell? ⟨wr.heap.size, 3, none⟩ = some (.slice Az zs.length cz) := blk7.cell 3)
            | (at_builtin; refine wpList_append_out (ys := zs) _ rfl _ _ _ rfl elem8 own7 rfl rfl hr7 (by omega) hs7 ?_; intro A8 c8 w8 own8 tu8 ne8))
          have hb8 := own7.turned tu8 hs7
          have hfin : putB (ss.take (i + 1)) = us ++ zs := by rw [HN.out, if_neg ha, ← HU.out, ← HY.out]; simp
          go_roundw
          case rel => exact ⟨i + 1, A8, c8, by omega, by go_num, by rw [hfin]; simp, by rw [hfin]; simpa using own8, hb06.trans (hb7.trans hb8)⟩
          case measure => simp [intOf] <;> omega
    · obtain rfl : i = ss.length := by omega
      rw [List.take_of_length_le (Nat.le_refl _)] at own
      go_wp2_with fail
      go_ret2
      exact ⟨A', c', by simp, own, hb⟩
end Go.Proofs.Ytjcofmeknpgjnaa.Pl
