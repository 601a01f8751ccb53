/-
  Layer 7, part: Read: contract. Conditions: as each theorem names.
-/
import Derived.Test.YtpnodocjpedcmaaDoorPaC
import Derived.Test.YtpnodocjpedcmaaDoorStr
import Derived.Deep.RegionHeld
import Derived.IntWalk
namespace Go.Proofs.YtpnodocjpedcmaaDoor.Pt
open Go.ChangeShapes Go.WideShapes Go.ChangeAt Go.RowKit Go.Proofs.YtpnodocjpedcmaaDoor.Kit Go.Proofs.YtpnodocjpedcmaaDoor.Sec

def PRead (s : Dv) (F : Int) (T : Nat) (x n : Int) (r : List Int × Int) : Prop :=
  if 0 ≤ x ∧ x ≤ T ∧ 0 ≤ n ∧ n ≤ T - x then ReadsP s F x.toNat n.toNat r else r = ([], 5)

set_option maxRecDepth 100000 in
set_option maxHeartbeats 6400000 in
theorem pread_any (I : Nat → Prop) (p a mk mw : Nat) (F C : Int) (T : Nat) (s : Dv) (x n : Int) (w : World) (hp : PartAt w p a F C) (h : DvAt w I a mk mw s) (hl : Lies s F C T) (hx : -9223372036854775808 ≤ x ∧ x ≤ 9223372036854775807) :
    Calls Tryd.prog 49 #[.pointer (some ⟨p, 0, none⟩), .int .i64 x, .int .i64 n] w fun e w' => ∃ r, PRead s F T x n r ∧ GivesB r.1 r.2 w e w' := by
  have GH := Lib.hid (has_any I p a mk mw F C T s x n w hp h hl hx)
  unfold PRead
  by_cases hin : 0 ≤ x ∧ x ≤ (T : Int) ∧ 0 ≤ n ∧ n ≤ (T : Int) - x
  · rw [decide_eq_true hin] at GH
    obtain ⟨b, rfl⟩ : ∃ b : Nat, x = (b : Int) := ⟨x.toNat, by omega⟩
    obtain ⟨N, rfl⟩ : ∃ N : Nat, n = (N : Int) := ⟨n.toNat, by omega⟩
    simp only [if_pos hin, Int.toNat_natCast]
    have hT := hl.most h.ok
    have hs1 := h.ok.s1
    have hs2 := h.ok.s2
    have hW := Lib.hid (whole_of h)
    have HL := Lib.hid hl
    have HPD := Lib.hid (fun W (hb : Below w.heap.size w W) => (⟨hp.below hb (Block.lt hp), h.below hb⟩ : PartAt W p a F C ∧ DvAt W I a mk mw s))
    clear hp h hl hx
    go_enter Tryd.func49, Tryd.ntmps49
    go_wp2_with (go_at_call 76; (with_reducible refine GH.out.mono ?_); rintro e w1 ⟨rfl, k1, hk1⟩
                 have B1 : Below w.heap.size w w1 := by rw [hk1]; exact below_draws (Below.refl _ _) k1
                 have x0 : w1.cell? ⟨p, 0, none⟩ = some (.pointer (some ⟨a, 0, none⟩)) := (HPD.out _ B1).1.cell 0
                 clear hk1 GH)
    refine (size_any I a mk mw s _ (HPD.out _ B1).2).mono ?_
    rintro e w2 ⟨rfl, rfl⟩
    go_wp2_with (at_make; refine wpList_make_ints _ rfl _ _ _ rfl elem8 0 N rfl rfl rfl rfl (Nat.zero_le _) (by omega) ?_; intro w2 own2 hb2 hz2)
    have own3 : Own w2 w.heap.size 5 .u8 (.slice (some ⟨w1.heap.size, 0, none⟩) 0 N) (rowP s F b 0) := own2.mono B1.size
    have B2 := B1.trans (hb2.mono B1.size)
    have HO3 := Lib.hid own3
    clear own2 own3 hb2 hz2 x0
    have hCS := HL.out.t
    go_loopw [1, 9] (fun q v wr => ∃ P k : Nat, P = b + k ∧ k ≤ N ∧ q = .int .i64 (P : Int) ∧ Own wr w.heap.size 5 .u8 v (rowP s F b k) ∧ OkP s F b k ∧ Below w.heap.size w wr) (fun q _ _ => b + N - (intOf q).toNat)
    case atStart => exact ⟨b, 0, rfl, Nat.zero_le _, rfl, HO3.out, fun j hj => absurd hj (by omega), B2⟩
    case round =>
      clear HO3 B2 B1
      obtain ⟨P, k, hP, hk, rfl, own, hok, hb⟩ := hrel
      obtain ⟨A2, c2, hv, hc2, hm2, -⟩ := own.opened
      rw [rowP_length] at hv hc2
      subst hv
      by_cases hlt : k < N
      · have d0 : decide ((k : Int) < (N : Int)) = true := decide_eq_true (by omega)
        obtain ⟨xs, E, hsec⟩ : ∃ xs E, secP s F P = (xs, E) := ⟨_, _, rfl⟩
        obtain ⟨Q, hQ⟩ : ∃ Q : Nat, P / s.size = Q := ⟨_, rfl⟩
        have hPT : (Q : Int) < C := by
          have h1 : P / s.size * s.size ≤ P := Nat.div_mul_le_self _ _
          rw [hQ] at h1
          have h2 : ((Q * s.size : Nat) : Int) < C * (s.size : Int) := by omega
          rw [Int.natCast_mul] at h2
          exact Int.lt_of_mul_lt_mul_right h2 (by omega)
        have hq11 : (P : Int).tdiv (s.size : Int) = (Q : Int) := by rw [← hQ]; exact (Int.ofNat_tdiv P s.size).symm
        have hFC := HL.out.fc
        have hF0 := HL.out.f0
        have hcnt : (s.count : Int) ≤ 1048576 := by have := (HPD.out _ hb).2.ok.c2; omega
        have GRD : Hid (∀ W, Below w.heap.size w W → Calls Tryd.prog 77 #[.pointer (some ⟨a, 0, none⟩), .int .i64 (F + (Q : Int))] W (GivesB xs E W)) := Lib.hid (fun W hB => by
          have := read_any I a mk mw s (F + (Q : Int)) W (HPD.out _ hB).2 (by omega)
          have e : s.read (F + (Q : Int)) = (xs, E) := by rw [← hQ]; exact hsec
          rwa [e] at this)
        have HS := Lib.hid hsec
        have HPk := Lib.hid hP
        have HOK := Lib.hid hok
        clear hsec hok hP
        have hsz : ¬ s.size = 0 := by omega
        go_wp2_with fail
        refine wp_region_held_drew (S := (fun W => PartAt W p a F C)) (by kernel_rfl) (HPD.out _ hb).1 (fun hS => ?_)
        refine wpAnyH_take (i := 0) (oi := ⟨some 31, _, _, _, _, _⟩) (v := .pointer (some ⟨p, 0, none⟩)) rfl (by kernel_rfl) (by kernel_rfl) (by kernel_rfl) (fun _ _ _ h => h) (Or.inl ⟨by rfl, fun W hW => by go_simp⟩) hS ?_
        try simp only [Act.put, List.setIfInBounds_toArray, List.set_cons_zero, List.set_cons_succ]
        refine wpAnyH_take (i := 4) (oi := ⟨some 35, _, _, _, _, _⟩) (v := .pointer (some ⟨p, 0, none⟩)) rfl (by kernel_rfl) (by kernel_rfl) (by kernel_rfl) (fun _ _ _ h => h) (Or.inl ⟨by rfl, fun W hW => by go_simp⟩) hS ?_
        try simp only [Act.put, List.setIfInBounds_toArray, List.set_cons_zero, List.set_cons_succ]
        refine wpAnyH_take (i := 9) (oi := ⟨some 40, _, _, _, _, _⟩) (v := .int .i64 (P : Int)) rfl (by kernel_rfl) (by kernel_rfl) (by kernel_rfl) (fun _ _ _ h => h) (Or.inl ⟨by rfl, fun W hW => by go_simp⟩) hS ?_
        try simp only [Act.put, List.setIfInBounds_toArray, List.set_cons_zero, List.set_cons_succ]
        refine wpAnyH_take (i := 10) (oi := ⟨some 41, _, _, _, _, _⟩) (v := .int .i64 (s.size : Int)) rfl (by kernel_rfl) (by kernel_rfl) (by kernel_rfl) (fun _ _ _ h => h) (Or.inl ⟨by rfl, fun W hW => by go_simp⟩) hS ?_
        try simp only [Act.put, List.setIfInBounds_toArray, List.set_cons_zero, List.set_cons_succ]
        refine wpAnyH_take (i := 1) (oi := ⟨some 32, _, _, _, _, _⟩) (v := .pointer (some ⟨p, 0, none⟩)) rfl (by kernel_rfl) (by kernel_rfl) (by kernel_rfl) (fun _ _ _ h => h) (Or.inl ⟨by rfl, fun W hW => by go_simp⟩) hS ?_
        try simp only [Act.put, List.setIfInBounds_toArray, List.set_cons_zero, List.set_cons_succ]
        refine wpAnyH_take (i := 5) (oi := ⟨some 36, _, _, _, _, _⟩) (v := .pointer (some ⟨p, 0, none⟩)) rfl (by kernel_rfl) (by kernel_rfl) (by kernel_rfl) (fun _ _ _ h => h) (Or.inl ⟨by rfl, fun W hW => by go_simp⟩) hS ?_
        try simp only [Act.put, List.setIfInBounds_toArray, List.set_cons_zero, List.set_cons_succ]
        refine wpAnyH_take (i := 11) (oi := ⟨some 42, _, _, _, _, _⟩) (v := .int .i64 (Q : Int)) rfl (by kernel_rfl) (by kernel_rfl) (by kernel_rfl) (fun _ _ _ h => h) (Or.inl ⟨by rfl, fun W hW => by go_simp; first | exact IntWalk.i64_in _ (by omega) | (rw [hq11]; exact IntWalk.i64_in _ (by omega))⟩) hS ?_
        try simp only [Act.put, List.setIfInBounds_toArray, List.set_cons_zero, List.set_cons_succ]
        refine wpAnyH_take (i := 2) (oi := ⟨some 33, _, _, _, _, _⟩) (v := .pointer (some ⟨p, 0, none⟩)) rfl (by kernel_rfl) (by kernel_rfl) (by kernel_rfl) (fun _ _ _ h => h) (Or.inl ⟨by rfl, fun W hW => by go_simp⟩) hS ?_
        try simp only [Act.put, List.setIfInBounds_toArray, List.set_cons_zero, List.set_cons_succ]
        refine wpAnyH_take (i := 6) (oi := ⟨some 37, _, _, _, _, _⟩) (v := .pointer (some ⟨p, 1, none⟩)) rfl (by kernel_rfl) (by kernel_rfl) (by kernel_rfl) (fun _ _ _ h => h) (Or.inl ⟨by rfl, fun W hW => by go_simp⟩) hS ?_
        try simp only [Act.put, List.setIfInBounds_toArray, List.set_cons_zero, List.set_cons_succ]
        refine wpAnyH_take (i := 3) (oi := ⟨some 34, _, _, _, _, _⟩) (v := .pointer (some ⟨a, 0, none⟩)) rfl (by kernel_rfl) (by kernel_rfl) (by kernel_rfl) (fun _ _ _ h => h) (Or.inl ⟨by rfl, fun W hW => by have q0 : W.cell? ⟨p, 0, none⟩ = some (.pointer (some ⟨a, 0, none⟩)) := Block.cell hW 0; have q1 : W.cell? ⟨p, 1, none⟩ = some (.int .i64 F) := Block.cell hW 1; go_simp⟩) hS ?_
        try simp only [Act.put, List.setIfInBounds_toArray, List.set_cons_zero, List.set_cons_succ]
        refine wpAnyH_take (i := 7) (oi := ⟨some 38, _, _, _, _, _⟩) (v := .pointer (some ⟨p, 1, none⟩)) rfl (by kernel_rfl) (by kernel_rfl) (by kernel_rfl) (fun _ _ _ h => h) (Or.inl ⟨by rfl, fun W hW => by go_simp⟩) hS ?_
        try simp only [Act.put, List.setIfInBounds_toArray, List.set_cons_zero, List.set_cons_succ]
        refine wpAnyH_take (i := 8) (oi := ⟨some 39, _, _, _, _, _⟩) (v := .int .i64 F) rfl (by kernel_rfl) (by kernel_rfl) (by kernel_rfl) (fun _ _ _ h => h) (Or.inl ⟨by rfl, fun W hW => by have q0 : W.cell? ⟨p, 0, none⟩ = some (.pointer (some ⟨a, 0, none⟩)) := Block.cell hW 0; have q1 : W.cell? ⟨p, 1, none⟩ = some (.int .i64 F) := Block.cell hW 1; go_simp⟩) hS ?_
        try simp only [Act.put, List.setIfInBounds_toArray, List.set_cons_zero, List.set_cons_succ]
        refine wpAnyH_take (i := 12) (oi := ⟨some 43, _, _, _, _, _⟩) (v := .int .i64 (F + (Q : Int))) rfl (by kernel_rfl) (by kernel_rfl) (by kernel_rfl) (fun _ _ _ h => h) (Or.inl ⟨by rfl, fun W hW => by go_simp; exact IntWalk.i64_in _ (by omega)⟩) hS ?_
        try simp only [Act.put, List.setIfInBounds_toArray, List.set_cons_zero, List.set_cons_succ]
        refine wpAnyH_ready (rs := [13]) (by kernel_rfl) (by simp) ?_
        refine AllReadyH.cons rfl (fun K hK => ?_) AllReadyH.nil
        go_simp
        go_at_call 77
        refine (GRD.out _ (below_draws hb 1)).mono ?_
        rintro e x1 ⟨v1, rfl, own1, hb1⟩
        have hbx := (below_draws hb 1).trans (hb1.mono hb.size)
        have own9 : Own x1 w.heap.size 5 .u8 (.slice A2 k c2) (rowP s F b k) := (Own.drewN own 1).below hb1
        have own1 := own1.mono (show w.heap.size ≤ wr.heap.size from hb.size)
        refine hK.out _ _ (HPD.out _ hbx).1 (fun hS => ?_)
        clear hK K
        try simp only [Act.put, List.setIfInBounds_toArray, List.set_cons_zero, List.set_cons_succ]
        refine wpAnyH_take (i := 14) (oi := ⟨some 30, _, _, _, _, _⟩) (v := .tuple #[v1, .int .i64 E]) rfl (by kernel_rfl) (by kernel_rfl) (by kernel_rfl) (fun _ _ _ h => h) (Or.inl ⟨by rfl, fun W hW => by go_simp⟩) hS ?_
        try simp only [Act.put, List.setIfInBounds_toArray, List.set_cons_zero, List.set_cons_succ]
        refine wpAnyH_take (i := 15) (oi := ⟨some 45, _, _, _, _, _⟩) (v := v1) rfl (by kernel_rfl) (by kernel_rfl) (by kernel_rfl) (fun _ _ _ h => h) (Or.inl ⟨by rfl, fun W hW => by go_simp⟩) hS ?_
        try simp only [Act.put, List.setIfInBounds_toArray, List.set_cons_zero, List.set_cons_succ]
        refine wpAnyH_take (i := 16) (oi := ⟨some 46, _, _, _, _, _⟩) (v := .int .i64 E) rfl (by kernel_rfl) (by kernel_rfl) (by kernel_rfl) (fun _ _ _ h => h) (Or.inl ⟨by rfl, fun W hW => by go_simp⟩) hS ?_
        try simp only [Act.put, List.setIfInBounds_toArray, List.set_cons_zero, List.set_cons_succ]
        refine wpAnyH_ready (rs := [17]) (by kernel_rfl) (by simp) ?_
        refine AllReadyH.cons rfl (fun K hK => ?_) AllReadyH.nil
        go_simp
        refine hK.out _ _ (HPD.out _ hbx).1 (fun hS => ?_)
        clear hK K
        try simp only [Act.put, List.setIfInBounds_toArray, List.set_cons_zero, List.set_cons_succ]
        refine wpAnyH_ready (rs := [18]) (by kernel_rfl) (by simp) ?_
        refine AllReadyH.cons rfl (fun K hK => ?_) AllReadyH.nil
        go_simp
        refine hK.out _ _ (HPD.out _ hbx).1 (fun hS => ?_)
        clear hK K
        try simp only [Act.put, List.setIfInBounds_toArray, List.set_cons_zero, List.set_cons_succ]
        refine wpAnyH_done (by kernel_rfl) ?_ _
        have HD1 := HPD.out _ hbx
        by_cases hE : E = 0
        · subst hE
          have hrow := hW.out
          have hxs := (hW.out (F + (Q : Int)) xs (by rw [← hQ]; exact HS.out)).1
          obtain ⟨g1, c1, hv1, hg1, hg2, hc1, hm1⟩ := own1.form (by omega)
          subst hv1
          have hh1 : Holds x1 x1.heap.size .u8 (some ⟨g1, 0, none⟩) xs := by
            obtain ⟨A9, c9, he9, -, -, hh9⟩ := own1.opened
            injection he9 with e1 e2 e3
            subst e1
            exact hh9
          rw [hxs] at hc1
          have hrem : (P : Int).tmod (s.size : Int) = ((P % s.size : Nat) : Int) := (Int.ofNat_tmod P s.size).symm
          obtain ⟨r, hr⟩ : ∃ r, P % s.size = r := ⟨_, rfl⟩
          have hrl : r < s.size := by rw [← hr]; exact Nat.mod_lt _ (by omega)
          rw [hr] at hrem
          have hc1r : ¬ c1 = r := by omega
          rw [hxs]
          obtain ⟨m, hmm⟩ : ∃ m : Nat, m = min (s.size - r) (N - k) := ⟨_, rfl⟩
          have hyl : ((xs.drop r).take m).length = m := by rw [List.length_take, List.length_drop, hxs]; omega
          have hys : (xs.drop r).take m = rowP s F (b + k) m := by
            have := piece (m := m) hxs HS.out (by rw [hr]; omega)
            rw [hr] at this
            rw [this, HPk.out]
          have HY := Lib.hid hys
          have hh2 := hh1.sub r m (by rw [hxs]; omega)
          rw [Nat.zero_add] at hh2
          have HOK2 := Lib.hid (okP_add (m := m) HOK.out (by rw [← HPk.out, hr]; omega) (by rw [← HPk.out, HS.out]))
          generalize hyy : (xs.drop r).take m = ys at *
          clear hyy hys hh1 hrow hxs
          obtain ⟨L, hL⟩ : ∃ L, s.size - r = L := ⟨_, rfl⟩
          have hr0 : (r : Int) ≤ (s.size : Int) := by omega
          have hmn : min (L : Int) ((N : Int) - (k : Int)) = (m : Int) := by omega
          have hml : (m : Int) ≤ (L : Int) := by omega
          have hmp : 0 < m := by omega
          have hmk : k + m ≤ N := by omega
          have HL2 := Lib.hid hL
          have d1 : (decide ((L : Int) ≤ (N : Int) - (k : Int)) = true ∧ L = m) ∨ (decide ((L : Int) ≤ (N : Int) - (k : Int)) = false ∧ N - k = m) := by
            by_cases h : L ≤ N - k
            · exact Or.inl ⟨decide_eq_true (by omega), by omega⟩
            · exact Or.inr ⟨decide_eq_false (by omega), by omega⟩
          have HMT : Hid ((min (L : Int) ((N : Int) - (k : Int))).toNat = m) := Lib.hid (by omega)
          have hbz := hbx.size
          have hyl2 : (rowP s F b k ++ ys).length = k + m := by rw [List.length_append, rowP_length, hyl]
          clear d1 hmn
          go_wp2_with (at_builtin; rw [HMT.out]; refine wpList_append_ints (ys := ys) _ rfl (.tmp 64) (.tmp 65) 22 rfl elem8 own9 rfl (by rw [hyl]; rfl) hh2 (by rw [rowP_length, hyl]; omega) hbz ?_; intro v7 w7 own7 g7 hb7 _)
          have own7 : Own w7 w.heap.size 5 .u8 v7 (rowP s F b (k + m)) := by rw [rowP_add, ← HY.out]; exact own7
          have HO7 := Lib.hid own7
          have hb8 := Lib.hid (hbx.trans hb7)
          clear own7 own9 own1 g7 hb7 HD1 hbx hh2 hb1 own
          have hmN : min L (N - k) = m := by omega
          have hPb : P + m ≤ 8589934592 := by have := HPk.out; omega
          have hw64 := Lib.hid (IntWalk.wrap64_in ((P : Int) + ((min L (N - k) : Nat) : Int)) (by rw [hmN]; omega))
          go_wp2_with fail
          go_roundw
          case rel => exact ⟨P + m, k + m, by rw [HPk.out]; omega, hmk, by (congr 1; exact hw64.out.trans (by rw [hmN, Int.natCast_add])), HO7.out, HOK2.out, hb8.out⟩
          case measure =>
            have := HPk.out
            rw [hw64.out, hmN]
            simp only [intOf]
            omega
        · have d1 : (E != 0) = true := by simpa using hE
          go_wp2_with fail
          go_ret2
          exact ⟨([], E), Or.inl ⟨k, hlt, HOK.out, by rw [← HPk.out, HS.out]; exact hE, by rw [← HPk.out, HS.out]⟩, _, rfl, Own.nil x1 w.heap.size 5 .u8, hbx⟩
      · obtain rfl : k = N := by omega
        have d0 : decide ((k : Int) < (k : Int)) = false := decide_eq_false (by omega)
        clear hlt
        go_wp2_with fail
        go_ret2
        exact ⟨(rowP s F b k, 0), Or.inr ⟨hok, rfl⟩, _, rfl, own, hb⟩
  · rw [decide_eq_false hin] at GH
    simp only [if_neg hin]
    clear hp h hl hx hin
    go_enter Tryd.func49, Tryd.ntmps49
    go_wp2_with (go_at_call 76; (with_reducible refine GH.out.mono ?_); rintro e w1 ⟨rfl, k1, hk1⟩
                 have B1 : Below w.heap.size w w1 := by rw [hk1]; exact below_draws (Below.refl _ _) k1
                 clear hk1 GH)
    go_ret2
    exact ⟨_, rfl, _, rfl, Own.nil w1 w.heap.size 5 .u8, B1⟩
end Go.Proofs.YtpnodocjpedcmaaDoor.Pt
