/-
  Layer 16, plan: Put of more steps. Conditions: as each theorem names.
-/
import Derived.Test.YtjcofmeknpgjnaaPlP
import Derived.Test.YtjcofmeknpgjnaaPlO
namespace Go.Proofs.Ytjcofmeknpgjnaa.Pl
open Go.ChangeShapes Go.WideShapes Go.ChangeAt Go.RowKit Go.Proofs.Ytjcofmeknpgjnaa.Kit

theorem putB_sq (ss : List Stp) : putB ss = putsQ (ss.map sqS) := by
  unfold putB putsQ
  rw [List.flatMap_map]
  rfl
theorem right_sq (ss : List Stp) : ss.all rightS = (ss.map sqS).all rightQ := by
  rw [List.all_map]
  rfl

theorem putS_octets {s : Stp} (h : rightS s = true) (ho : Octets s.zs) : Octets (putS s) := by
  have hf := right_facts h
  have h1 : Octets (numB s.x) := numF_octets 8 s.x (by omega) (by omega)
  have h2 : Octets (numB s.b) := numF_octets 8 s.b (by omega) (by omega)
  intro z hz
  unfold putS at hz
  rcases List.mem_append.1 hz with hz | hz
  · rcases List.mem_append.1 hz with hz | hz
    · rcases List.mem_append.1 hz with hz | hz
      · have : z = s.a := by simpa using hz
        omega
      · exact h1 z hz
    · by_cases ha : s.a = 1
      · rw [if_pos ha] at hz
        simp at hz
      · rw [if_neg ha] at hz
        exact h2 z hz
  · exact ho z hz

theorem putB_octets {ss : List Stp} (h : ss.all rightS = true) (ho : ∀ s ∈ ss, Octets s.zs) : Octets (putB ss) := by
  intro z hz
  obtain ⟨s, hs, hz⟩ := List.mem_flatMap.1 hz
  exact putS_octets (List.all_eq_true.1 h s hs) (ho s hs) z hz

theorem holdsS_octets {w : World} {A : Option Addr} {ss : List Stp} (h : HoldsS w A ss) : ∀ s ∈ ss, Octets s.zs := by
  intro s hs
  obtain ⟨i, hi, rfl⟩ := List.getElem_of_mem hs
  obtain ⟨_, _, _, _, _, _, _, _, _, _, _, _, _, h1, _⟩ := stepAt h hi
  exact h1

/-- Right steps have three bytes at least. -/
theorem putsQ_three : ∀ (qs : List Sq), qs.all rightQ = true → 3 * qs.length ≤ (putsQ qs).length
  | [], _ => by simp
  | q :: qs, h => by
    simp only [List.all_cons, Bool.and_eq_true] at h
    have h1 := putsQ_three qs h.2
    have h2 := of_decide_eq_true (h.1 : decide _ = true)
    have h3 := numB_length q.x
    have h4 := numB_length q.b
    have h5 : 3 ≤ (putQ q).length := by
      unfold putQ
      by_cases ha : q.a = 1
      · rw [if_pos ha]
        simp
        omega
      · rw [if_neg ha]
        simp
        omega
    simp only [putsQ, List.flatMap_cons, List.length_append, List.length_cons] at h1 ⊢
    omega

set_option maxRecDepth 100000 in
set_option maxHeartbeats 6400000 in
theorem put_more (A : Option Addr) (ss : List Stp) (c : Nat) (w : World) (hl : ss.length ≤ 1900) (hc : ss.length ≤ c) (hm : c ≤ maxLen) (hr : HoldsS w A ss) (h : ss.all rightS = true) :
    Calls Try.prog 11 #[.slice A ss.length c] w (PutsB ss w) := by
  unfold maxLen at hm
  have G := Lib.hid (h ▸ are_any A ss c w hc (by unfold maxLen; omega) hr)
  have hall := fun (i : Nat) (hi : i < ss.length) => List.all_eq_true.1 h ss[i] (List.getElem_mem hi)
  have hbd := fun (i : Nat) => putB_bd (ss.take i) (all_take h i)
  clear h
  go_enter Try.func11, Try.ntmps11
  go_wp2_with (go_at_call 20; refine G.out.mono ?_; rintro e w1 ⟨rfl, hb1⟩)
  go_loopw [4, 12] (fun v s wr => ∃ (i : Nat) (A' : Option Addr) (c' : Nat), i ≤ ss.length ∧ s = .int .i64 i ∧ v = .slice A' (putB (ss.take i)).length c' ∧ Own wr w.heap.size 5 .u8 (.slice A' (putB (ss.take i)).length c') (putB (ss.take i)) ∧ Below w.heap.size w wr) (fun _ s _ => ss.length - (intOf s).toNat)
  case atStart => exact ⟨0, none, 0, Nat.zero_le _, rfl, by simp [putB], by simpa [putB] using Own.nil w1 w.heap.size 5 .u8, hb1⟩
  case round =>
    obtain ⟨i, A', c', hi, rfl, rfl, own, hb⟩ := hrel
    by_cases hlt : i < ss.length
    · have hri := hall i hlt
      obtain ⟨b, off, rfl, hbl, c0, c1, c2, c3, k0, k1, k2, h1, h2, hoz, hrz⟩ := stepAt (steps_below hr hb) hlt
      have hnext : putB (ss.take (i + 1)) = putB (ss.take i) ++ putS ss[i] := by rw [take_next hlt, putB_snoc]
      have hbi := hbd i
      have hd := right_data hri
      rw [List.length_take] at hbi
      generalize ss[i] = s at *
      obtain ⟨a, n, x, Az, cz, zs⟩ := s
      simp only at c0 c1 c2 c3 k0 k1 k2 hrz hd
      have hps : putS ⟨a, n, x, Az, cz, zs⟩ = [a] ++ numB x ++ (if a = 1 then [] else numB n) ++ zs := rfl
      rw [hps] at hnext
      unfold rightS rightB at hri
      have hri := of_decide_eq_true hri
      simp only at hri
      generalize putB (ss.take i) = xs at *
      have hxl : xs.length ≤ 9500000 := by omega
      have hxx : 0 ≤ x ∧ x ≤ 9223372036854775807 := by omega
      have hnn : 0 ≤ n ∧ n ≤ 9223372036854775807 := by omega
      have hN1 := numB_length x
      have hN2 := numB_length n
      have HN := Lib.hid hnext
      have HR := Lib.hid hri
      clear hall hbd hri hps hnext k0 k1 k2 hbi
      have blk := Block.new wr 28 #[.int .u8 a, .int .i64 n, .int .i64 x, .slice Az zs.length cz]
      have ownA := own.alloc (.cells #[.int .u8 a, .int .i64 n, .int .i64 x, .slice Az zs.length cz] 28)
      have hbA := hb.alloc hb.size (.cells #[.int .u8 a, .int .i64 n, .int .i64 x, .slice Az zs.length cz] 28)
      have hrA := hrz.below ((Below.refl w.heap.size wr).alloc hb.size (.cells #[.int .u8 a, .int .i64 n, .int .i64 x, .slice Az zs.length cz] 28))
      go_wp2_with fail
      clear c0 c1 c2 c3 own hrz
      generalize wr.alloc (.cells #[.int .u8 a, .int .i64 n, .int .i64 x, .slice Az zs.length cz] 28) = wa at *
      have q0 : wa.cell? ⟨wr.heap.size, 0, none⟩ = some (.int .u8 a) := blk.cell 0
      have q2 : wa.cell? ⟨wr.heap.size, 2, none⟩ = some (.int .i64 x) := blk.cell 2
      have qa : ∀ o, (wa.alloc o).cell? ⟨wr.heap.size, 2, none⟩ = some (.int .i64 x) := fun o => (blk.alloc o).cell 2
      have hBa := hbA.size
      obtain ⟨ys, hys⟩ : ∃ ys, xs ++ [a] ++ numB x = ys := ⟨_, rfl⟩
      have hyl : ys.length ≤ 9500100 := by rw [← hys]; simp; omega
      have GN := Lib.hid (fun (v : Value) (W : World) (h1 : w.heap.size ≤ W.heap.size) (h2 : Own W w.heap.size 5 .u8 v (xs ++ [a])) => hys ▸ number_any w.heap.size v (xs ++ [a]) x W hxx h1 (by simp; omega) h2)
      have HY := Lib.hid hys
      clear hys
      go_cut [4] (fun v wx => ∃ (A6 : Option Addr) (c6 : Nat), v = .slice A6 ys.length c6 ∧ Own wx w.heap.size 5 .u8 (.slice A6 ys.length c6) ys ∧ Block wx wr.heap.size 28 #[.int .u8 a, .int .i64 n, .int .i64 x, .slice Az zs.length cz] ∧ Below w.heap.size wa wx)
      case first =>
        go_region_law (first
          | (refine step_append_one_drew (z := a) (by rfl) _ _ _ (by rfl) elem8 (by exact ownA) (by rfl) (by rfl) (by omega) hBa (by exact blk) (by decide) ?_; intro A5 c5 w5 own5 tu5 ne5 blk5; have s2 := blk5.cell 2; have hb5 := ownA.turned tu5 hBa; have hs5 := Nat.le_trans hBa hb5.size)
          | (go_simp; go_at_call 21; refine (GN.out _ w5 hs5 own5).mono ?_; rintro e w6 ⟨A6, c6, rfl, own6, tu6, ne6⟩; have blk6 := blk5.apart own5 (by decide) tu6; have hb6 := own5.turned tu6 hs5))
        all_goals (go_wp2_with fail; go_meet; exact ⟨A6, c6, rfl, own6, blk6, hb5.trans hb6⟩)
      case rest =>
        obtain ⟨A6, c6, rfl, own6, blk6, hb6⟩ := hcut
        clear q0 q2 qa blk ownA GN
        have q0 := blk6.cellOf 0 (u := .int .u8 a) rfl
        have q1 := blk6.cellOf 1 (u := .int .i64 n) rfl
        have q3 := blk6.cellOf 3 (u := .slice Az zs.length cz) rfl
        have hb06 := hbA.trans hb6
        have hr6 := hrA.below hb6
        have hs6 := hb06.size
        by_cases ha : a = 1
        · subst ha
          go_wp2_with (at_builtin; refine wpList_append_out (ys := zs) _ rfl _ _ _ rfl elem8 own6 rfl rfl hr6 (by omega) hs6 ?_; intro A7 c7 w7 own7 tu7 ne7)
          have hb7 := own6.turned tu7 hs6
          have hfin : putB (ss.take (i + 1)) = ys ++ zs := by rw [HN.out, if_pos rfl, ← HY.out]; simp
          go_roundw
          case rel => exact ⟨i + 1, A7, c7, by omega, by go_num, by rw [hfin]; simp, by rw [hfin]; simpa using own7, hb06.trans hb7⟩
          case measure => simp [intOf] <;> omega
        · have hne : (a != 1) = true := by simp [ha]
          obtain ⟨us, hus⟩ : ∃ us, ys ++ numB n = us := ⟨_, rfl⟩
          have hul : us.length ≤ 9500200 := by rw [← hus]; simp; omega
          have GM := Lib.hid (hus ▸ number_any w.heap.size (.slice A6 ys.length c6) ys n _ hnn hs6 (by omega) own6)
          have HU := Lib.hid hus
          clear hus
          go_wp2_with (first
            | (go_at_call 21; refine GM.out.mono ?_; rintro e w7 ⟨A7, c7, rfl, own7, tu7, ne7⟩; have blk7 := blk6.apart own6 (by decide) tu7; have hb7 := own6.turned tu7 hs6; have hr7 := hr6.below hb7; have hs7 := Nat.le_trans hs6 hb7.size; have s3 : w7.cell? ⟨wr.heap.size, 3, none⟩ = some (.slice Az zs.length cz) := blk7.cell 3)
            | (at_builtin; refine wpList_append_out (ys := zs) _ rfl _ _ _ rfl elem8 own7 rfl rfl hr7 (by omega) hs7 ?_; intro A8 c8 w8 own8 tu8 ne8))
          have hb8 := own7.turned tu8 hs7
          have hfin : putB (ss.take (i + 1)) = us ++ zs := by rw [HN.out, if_neg ha, ← HU.out, ← HY.out]; simp
          go_roundw
          case rel => exact ⟨i + 1, A8, c8, by omega, by go_num, by rw [hfin]; simp, by rw [hfin]; simpa using own8, hb06.trans (hb7.trans hb8)⟩
          case measure => simp [intOf] <;> omega
    · obtain rfl : i = ss.length := by omega
      rw [List.take_of_length_le (Nat.le_refl _)] at own
      go_wp2_with fail
      go_ret2
      exact ⟨A', c', by simp, own, hb⟩
end Go.Proofs.Ytjcofmeknpgjnaa.Pl
