/-
  Layer 16, plan: the document's writing of a plan; the size of a plan. Conditions: as each theorem names.
-/
import Derived.Test.YtjcofmeknpgjnaaPlG
namespace Go.Proofs.Ytjcofmeknpgjnaa.Pl
open Go.ChangeShapes Go.WideShapes Go.ChangeAt Go.RowKit Go.Proofs.Ytjcofmeknpgjnaa.Kit

set_option maxRecDepth 100000 in
set_option maxHeartbeats 6400000 in
theorem rput_any (A : Option Addr) (ss : List Stp) (c : Nat) (w : World) (hl : ss.length ≤ 1000) (hc : ss.length ≤ c) (hm : c ≤ maxLen) (hr : HoldsS w A ss) (zs : List Int) (why : Int)
    (hz : (ss.all rightS = false ∧ zs = [] ∧ why = 3) ∨ (ss.all rightS = true ∧ zs = putB ss ∧ why = 0)) :
    Calls Try.prog 12 #[.slice A ss.length c] w (GivesE zs why w) := by
  have own0 := Own.empty (B := w.heap.size) w 5 .u8 (Nat.le_refl _)
  have hb0 : Below w.heap.size w (w.alloc (.cells #[] 5)) := (Below.refl _ _).alloc (Nat.le_refl _) _
  have HZ := Lib.hid hz
  have hbd := fun (i : Nat) (h : (ss.take i).all rightS = true) => putB_bd (ss.take i) h
  clear hz
  unfold maxLen at hm
  go_enter Try.func12, Try.ntmps12
  go_wp2_with fail
  go_loopw [4, 12] (fun v s wr => ∃ (i : Nat) (xs : List Int) (A' : Option Addr) (c' : Nat), i ≤ ss.length ∧ s = .int .i64 i ∧ (ss.take i).all rightS = true ∧ putB (ss.take i) = xs ∧ v = .slice A' xs.length c' ∧ Own wr w.heap.size 5 .u8 (.slice A' xs.length c') xs ∧ Below w.heap.size w wr) (fun _ s _ => ss.length - (intOf s).toNat)
  case atStart => exact ⟨0, [], _, _, Nat.zero_le _, rfl, by simp, by simp [putB], rfl, own0, hb0⟩
  case round =>
    obtain ⟨i, xs, A', c', hi, rfl, hpre, hxs, rfl, own, hb⟩ := hrel
    by_cases hlt : i < ss.length
    · obtain ⟨b, off, rfl, hbl, c0, c1, c2, c3, k0, k1, k2, h1, h2, hoz, hrz⟩ := stepAt (steps_below hr hb) hlt
      have hbi := hbd i hpre
      rw [List.length_take, hxs] at hbi
      have hnext := take_next hlt
      have hmem := List.getElem_mem hlt
      generalize ss[i] = s at *
      cases hri : rightS s with
      | false =>
        have hall : ss.all rightS = false := by
          rw [Bool.eq_false_iff]
          intro h
          rw [List.all_eq_true.1 h s hmem] at hri
          cases hri
        obtain ⟨rfl, rfl⟩ : zs = [] ∧ why = 3 := by
          rcases HZ.out with h | h
          · exact h.2
          · rw [hall] at h; cases h.1
        unfold rightS at hri
        obtain ⟨a, n, x, Az, cz, us⟩ := s
        simp only at c0 c1 c2 c3 hri
        have G := Lib.hid (fun W => hri ▸ rright_any a n x Az us.length cz W)
        have hbA := hb.alloc hb.size (.cells #[.int .u8 a, .int .i64 n, .int .i64 x, .slice Az us.length cz] 28)
        clear hri k0 k1 k2 h1 h2 hoz hrz hnext hpre hall hmem hbd hbi hxs HZ
        go_wp2_with (go_at_call 10; refine (G.out _).mono ?_; rintro e w2 ⟨rfl, hb2⟩; have hb3 := hbA.trans (hb2.mono hbA.size))
        go_ret2
        exact ⟨_, 0, rfl, Holds.nil, Nat.zero_le _, Nat.zero_le _, hb3.alloc hb3.size _⟩
      | true =>
        have hpre2 : (ss.take (i + 1)).all rightS = true := by rw [hnext, List.all_append, hpre]; simp [hri]
        have HP := Lib.hid hpre2
        have hput : putB (ss.take (i + 1)) = xs ++ putS s := by rw [hnext, putB_snoc, hxs]
        have hd := right_data hri
        have hf := right_facts hri
        unfold rightS at hri
        obtain ⟨a, n, x, Az, cz, us⟩ := s
        simp only at c0 c1 c2 c3 hri hrz hd hf
        have hps : putS ⟨a, n, x, Az, cz, us⟩ = [a] ++ numB x ++ (if a = 1 then [] else numB n) ++ us := rfl
        rw [hps] at hput
        have HN := Lib.hid hput
        have G := Lib.hid (fun W => hri ▸ rright_any a n x Az us.length cz W)
        have hxx : 0 ≤ x ∧ x ≤ 9223372036854775807 := by omega
        have hnn : 0 ≤ n ∧ n ≤ 9223372036854775807 := by omega
        have ha3 : 1 ≤ a ∧ a ≤ 3 := by omega
        have hN1 := numB_length x
        have hN2 := numB_length n
        have blk := Block.new wr 28 #[.int .u8 a, .int .i64 n, .int .i64 x, .slice Az us.length cz]
        have ownA := own.alloc (.cells #[.int .u8 a, .int .i64 n, .int .i64 x, .slice Az us.length cz] 28)
        have hbA := hb.alloc hb.size (.cells #[.int .u8 a, .int .i64 n, .int .i64 x, .slice Az us.length cz] 28)
        have hrA := hrz.below ((Below.refl w.heap.size wr).alloc hb.size (.cells #[.int .u8 a, .int .i64 n, .int .i64 x, .slice Az us.length cz] 28))
        clear hri k0 k1 k2 h1 h2 hoz hrz hnext hpre hmem hbd hxs HZ hps hput hpre2 hf
        by_cases ha : a = 1
        · subst ha
          have hfin := HN.out
          rw [if_pos rfl, List.append_nil] at hfin
          have HF := Lib.hid hfin
          clear hfin
          go_wp2_with (first
            | (go_at_call 10; refine (G.out _).mono ?_; rintro e w2 ⟨rfl, hb2⟩; have own2 := ownA.below hb2; have blk2 := blk.below hb2 blk.lt; have r2 := hrA.below (hb2.mono hbA.size); have hb3 := hbA.trans (hb2.mono hbA.size); have hs3 := hb3.size; have q0 := blk2.cellOf 0 (u := .int .u8 1) rfl)
            | (have _t := own2; at_builtin; refine wpList_append_one_out (z := 1) _ rfl _ _ _ rfl elem8 own2 rfl rfl (by omega) hs3 ?_; clear _t; intro A4 c4 w4 own4 t4 n4; have blk4 := blk2.apart own2 (by decide) t4; have hb4 := own2.turned t4 hs3; have hb04 := hb3.trans hb4; have r4 := r2.below hb4; have hs4 := hb04.size; have p2 := blk4.cellOf 2 (u := .int .i64 x) rfl; clear own2)
            | (have _t := own4; go_at_call 22; refine (rnumber_any x _ hxx).mono ?_; clear _t; rintro e w5 ⟨A5, c5, rfl, own5, hb5⟩; have own4' := own4.below hb5; have blk5 := blk4.below hb5 blk4.lt; have hb05 := hb04.trans (hb5.mono hs4); have r5 := r4.below (hb5.mono hs4); have hs5 := hb05.size; obtain ⟨_, _, e5, _, _, hr5⟩ := own5.opened; injection e5 with e6 e7 e8; subst e6 e8; clear own4)
            | (have _t := own4'; at_builtin; refine wpList_append_out (ys := numB x) _ rfl _ _ _ rfl elem8 own4' rfl rfl hr5 (by simp; omega) hs5 ?_; clear _t; intro A6 c6 w6 own6 t6 n6; obtain ⟨y6, hy6⟩ : ∃ y, xs ++ [1] ++ numB x = y := ⟨_, rfl⟩; have e6 : (xs ++ [1]).length + (numB x).length = y6.length := (by rw [← hy6]; exact List.length_append.symm); have hy6l : y6.length ≤ 6000000 := (by rw [← hy6]; simp; omega); rw [e6, hy6] at own6; rw [e6]; have HY := Lib.hid hy6; clear hy6 e6; have blk6 := blk5.apart own4' (by decide) t6; have hb6 := own4'.turned t6 hs5; have hb06 := hb05.trans hb6; have r6 := r5.below hb6; have hs6 := hb06.size; have u0 := blk6.cellOf 0 (u := .int .u8 1) rfl; have u1 := blk6.cellOf 1 (u := .int .i64 n) rfl; have u3 := blk6.cellOf 3 (u := .slice Az us.length cz) rfl; clear own4')
            | (have _t := own6; at_builtin; refine wpList_append_out (ys := us) _ rfl _ _ _ rfl elem8 own6 rfl rfl r6 (by omega) hs6 ?_; clear _t; intro A9 c9 w9 own9 t9 n9; have hb9 := hb06.trans (own6.turned t9 hs6); clear own6))
          go_roundw
          case rel =>
            exact ⟨i + 1, y6 ++ us, A9, c9, by omega, by go_num, HP.out, by rw [HF.out, ← HY.out]; simp, by simp [Nat.add_assoc], by simpa [Nat.add_assoc] using own9, hb9⟩

          case measure => simp [intOf] <;> omega
        · have h1a : decide ((1 : Int) < a) = true := decide_eq_true (by omega)
          have hfin := HN.out
          rw [if_neg ha] at hfin
          have HF := Lib.hid hfin
          clear hfin
          go_wp2_with (first
            | (go_at_call 10; refine (G.out _).mono ?_; rintro e w2 ⟨rfl, hb2⟩; have own2 := ownA.below hb2; have blk2 := blk.below hb2 blk.lt; have r2 := hrA.below (hb2.mono hbA.size); have hb3 := hbA.trans (hb2.mono hbA.size); have hs3 := hb3.size; have q0 := blk2.cellOf 0 (u := .int .u8 a) rfl)
            | (have _t := own2; at_builtin; refine wpList_append_one_out (z := a) _ rfl _ _ _ rfl elem8 own2 rfl rfl (by omega) hs3 ?_; clear _t; intro A4 c4 w4 own4 t4 n4; have blk4 := blk2.apart own2 (by decide) t4; have hb4 := own2.turned t4 hs3; have hb04 := hb3.trans hb4; have r4 := r2.below hb4; have hs4 := hb04.size; have p2 := blk4.cellOf 2 (u := .int .i64 x) rfl; clear own2)
            | (have _t := own4; go_at_call 22; refine (rnumber_any x _ hxx).mono ?_; clear _t; rintro e w5 ⟨A5, c5, rfl, own5, hb5⟩; have own4' := own4.below hb5; have blk5 := blk4.below hb5 blk4.lt; have hb05 := hb04.trans (hb5.mono hs4); have r5 := r4.below (hb5.mono hs4); have hs5 := hb05.size; obtain ⟨_, _, e5, _, _, hr5⟩ := own5.opened; injection e5 with e6 e7 e8; subst e6 e8; clear own4)
            | (have _t := own4'; at_builtin; refine wpList_append_out (ys := numB x) _ rfl _ _ _ rfl elem8 own4' rfl rfl hr5 (by simp; omega) hs5 ?_; clear _t; intro A6 c6 w6 own6 t6 n6; obtain ⟨y6, hy6⟩ : ∃ y, xs ++ [a] ++ numB x = y := ⟨_, rfl⟩; have e6 : (xs ++ [a]).length + (numB x).length = y6.length := (by rw [← hy6]; exact List.length_append.symm); have hy6l : y6.length ≤ 6000000 := (by rw [← hy6]; simp; omega); rw [e6, hy6] at own6; rw [e6]; have HY := Lib.hid hy6; clear hy6 e6; have blk6 := blk5.apart own4' (by decide) t6; have hb6 := own4'.turned t6 hs5; have hb06 := hb05.trans hb6; have r6 := r5.below hb6; have hs6 := hb06.size; have u0 := blk6.cellOf 0 (u := .int .u8 a) rfl; have u1 := blk6.cellOf 1 (u := .int .i64 n) rfl; have u3 := blk6.cellOf 3 (u := .slice Az us.length cz) rfl; clear own4')
            | (have _t := own6; go_at_call 22; refine (rnumber_any n _ hnn).mono ?_; clear _t; rintro e w7 ⟨A7, c7, rfl, own7, hb7⟩; have own6' := own6.below hb7; have blk7 := blk6.below hb7 blk6.lt; have hb07 := hb06.trans (hb7.mono hs6); have r7 := r6.below (hb7.mono hs6); have hs7 := hb07.size; obtain ⟨_, _, e5, _, _, hr7⟩ := own7.opened; injection e5 with e6 e7 e8; subst e6 e8; clear own6)
            | (have _t := own6'; at_builtin; refine wpList_append_out (ys := numB n) _ rfl _ _ _ rfl elem8 own6' rfl rfl hr7 (by omega) hs7 ?_; clear _t; intro A8 c8 w8 own8 t8 n8;  have blk8 := blk7.apart own6' (by decide) t8; have hb8 := own6'.turned t8 hs7; have hb08 := hb07.trans hb8; have r8 := r7.below hb8; have hs8 := hb08.size; have u8 := blk8.cellOf 3 (u := .slice Az us.length cz) rfl; clear own6')
            | (have _t := own8; at_builtin; refine wpList_append_out (ys := us) _ rfl _ _ _ rfl elem8 own8 rfl rfl r8 (by simp only [List.length_append]; omega) hs8 ?_; clear _t; intro A9 c9 w9 own9 t9 n9; have hb9 := hb08.trans (own8.turned t9 hs8); clear own8))
          go_roundw
          case rel =>
            exact ⟨i + 1, y6 ++ numB n ++ us, A9, c9, by omega, by go_num, HP.out, by rw [HF.out, ← HY.out]; simp, by simp [Nat.add_assoc], by simpa [Nat.add_assoc] using own9, hb9⟩

          case measure => simp [intOf] <;> omega
    · obtain rfl : i = ss.length := by omega
      rw [List.take_of_length_le (Nat.le_refl _)] at hpre hxs
      obtain ⟨rfl, rfl⟩ : zs = xs ∧ why = 0 := by
        rcases HZ.out with h | h
        · rw [hpre] at h; cases h.1
        · exact ⟨by rw [h.2.1, hxs], h.2.2⟩
      clear hbd hpre hxs HZ
      obtain ⟨A7, c7, hv7, hl7, hm7, hr7⟩ := own.opened
      injection hv7 with e1 e2 e3
      subst e1 e3
      go_wp2_with fail
      go_ret2
      exact ⟨A', c', rfl, hr7, hl7, hm7, hb⟩

/-- What Size gives. -/
theorem size_any (A : Option Addr) (ss : List Stp) (c : Nat) (w : World) (hl : ss.length ≤ 1000) (hc : ss.length ≤ c) (hm : c ≤ maxLen) (hr : HoldsS w A ss) :
    Calls Try.prog 13 #[.slice A ss.length c] w (Gives (.int .i64 (if ss.all rightS = true then (putB ss).length else 0)) w) := by
  cases h : ss.all rightS with
  | true =>
    rw [if_pos rfl]
    have G := Lib.hid (put_yes A ss c w hl hc hm hr h)
    have hbd := putB_bd ss h
    go_enter Try.func13, Try.ntmps13
    go_wp2_with (go_at_call 11; refine G.out.mono ?_; rintro e w2 ⟨A2, c2, rfl, own2, hb2⟩)
    go_ret
    exact ⟨rfl, hb2⟩
  | false =>
    rw [if_neg (by simp)]
    have G := Lib.hid (put_no A ss c w hc hm hr h)
    go_enter Try.func13, Try.ntmps13
    go_wp2_with (go_at_call 11; refine G.out.mono ?_; rintro e w2 ⟨rfl, hb2⟩)
    go_ret
    exact ⟨rfl, hb2⟩
end Go.Proofs.Ytjcofmeknpgjnaa.Pl
