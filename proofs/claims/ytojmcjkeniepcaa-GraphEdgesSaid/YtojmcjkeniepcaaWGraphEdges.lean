/-
  GraphEdges: the walk: who reads whom, of any plans, or the error, is the document's; turned round it is told of those that are read.
-/
import Derived.Test.YtojmcjkeniepcaaGrY
namespace Go.Proofs.Ytojmcjkeniepcaa.GraphEdges
open Go.ChangeShapes Go.WideShapes Go.ChangeAt Go.RowKit Go.Proofs.Ytojmcjkeniepcaa.Kit Go.Proofs.Ytojmcjkeniepcaa.Pl Go.Proofs.Ytojmcjkeniepcaa.Gr

theorem few_of {rs : List Ri} {n : Nat} (h : ∀ l ∈ rowsL rs, l.length ≤ n) (hn : n ≤ 1000000) : Few rs := fun r hr => Nat.le_trans (h r.zs (List.mem_map.2 ⟨r, hr, rfl⟩)) hn
theorem turned_few (L : List (List Int)) : ∀ l ∈ turnedL L, l.length ≤ L.length := by
  intro l hl
  obtain ⟨k, _, rfl⟩ := List.mem_map.1 hl
  exact turnTo_length _ _ _
theorem edges_few (ps : List Plan) (block : Int) : ∀ l ∈ (edgesR ps block).1, l.length ≤ ps.length := by
  unfold edgesR
  split
  · simp
  · split
    · intro l hl
      obtain ⟨k, _, rfl⟩ := List.mem_map.1 hl
      exact edgeL_length _ _ _ _
    · simp
theorem edges_len (ps : List Plan) (block : Int) : (edgesR ps block).1.length ≤ ps.length := by
  unfold edgesR
  split
  · simp
  · split
    · show (edgesTo ps block ps.length).length ≤ _
      rw [edgesTo_length]
      exact Nat.le_refl _
    · simp
theorem edges_ok {ps : List Plan} {block : Int} (h : (edgesR ps block).2 = 0) (hl : ps.length ≤ 4096) : RightL (edgesR ps block).1 := by
  unfold edgesR at h ⊢
  split
  · rename_i hm
    rw [if_pos hm] at h
    cases h
  · rename_i hm
    rw [if_neg hm] at h
    split
    · exact edges_right ps block hl
    · rename_i ha
      rw [if_neg ha] at h
      cases h

set_option maxRecDepth 100000 in
set_option maxHeartbeats 12800000 in
theorem walk (A : Option Addr) (ps : List Plan) (c : Nat) (block : Int) (w : World) (hl : ps.length ≤ c) (hm : c ≤ maxLen) (hr : HoldsP w w.heap.size A ps) (_ : (Lit.int .i64 block).wf = true) :
    Calls Try.prog 4 #[.slice A ps.length c, .int .i64 block] w fun e w' => e = .returned (.bool true) ∧ Below w.heap.size w w' := by
  have GG := Lib.hid (greatp_any A ps c w hl hm hr)
  have GA := Lib.hid Gr.awake_any
  cases hg : greatP ps with
  | true =>
    rw [hg] at GG
    clear hr hg
    go_enter Try.func4, Try.ntmps4
    go_wp2_with (first
      | (go_at_call 14; refine GG.out.mono ?_; rintro e w1 ⟨rfl, hb1⟩)
      | (go_at_call 10; refine (GA.out _).mono ?_; rintro e w5 ⟨rfl, hb5⟩))
    go_ret
    exact ⟨rfl, hb1.trans (hb5.mono hb1.size)⟩
  | false =>
    rw [hg] at GG
    obtain ⟨hf1, hf2⟩ := greatP_no hg
    have hfew : ∀ p ∈ ps, p.ss.length ≤ 1000 := fun p hp => by have := hf2 p hp; omega
    have G1 := Lib.hid (fun W (hb : Below w.heap.size w W) => edges_any A ps c block W hfew ((hr.below hb).more hb.size))
    have G2 := Lib.hid (fun W (hb : Below w.heap.size w W) => redges_any A ps c block W (by omega) hfew ((hr.below hb).more hb.size))
    have hef := edges_few ps block
    have hel := edges_len ps block
    have hok := edges_ok (ps := ps) (block := block)
    obtain ⟨⟨L, x⟩, hR⟩ : ∃ R, edgesR ps block = R := ⟨_, rfl⟩
    rw [hR] at G1 G2 hef hel hok
    simp only at G1 G2 hef hel hok
    have HF : Hid (∀ qs : List Ri, rowsL qs = L → Few qs ∧ qs.length ≤ 40) := Lib.hid (fun qs h => ⟨few_of (n := ps.length) (by rw [h]; exact hef) (by omega), by have := congrArg List.length h; rw [rowsL_length] at this; omega⟩)
    have HF2 : Hid (∀ qs : List Ri, rowsL qs = turnedL L → Few qs ∧ qs.length ≤ 40) := Lib.hid (fun qs h => ⟨few_of (n := L.length) (by rw [h]; exact turned_few _) (by omega), by have := congrArg List.length h; rw [turnedL_length, rowsL_length] at this; omega⟩)
    have GS : Hid (∀ (A1 A2 : Option Addr) (a b : List Ri) (c1 c2 : Nat) (W : World), rowsL a = rowsL b → a.length ≤ 40 → b.length ≤ 40 → Few a → Few b → HoldsI W W.heap.size A1 a → HoldsI W W.heap.size A2 b → Calls Try.prog 17 #[.slice A1 a.length c1, .slice A2 b.length c2] W fun e w' => e = .returned (.bool true) ∧ ∃ n, w' = W.drewN n) := Lib.hid (fun A1 A2 a b c1 c2 W hab ha hb fa fb h1 h2 => by
      have := sameall_any A1 A2 a b c1 c2 W (by omega) (by omega) fa fb h1 h2
      rwa [decide_eq_true hab] at this)
    have hx2 : (x != x) = false := by simp
    by_cases hx : x = 0
    · subst hx
      have hR := hok rfl (by omega)
      have HG : Hid (∀ W e w', GTurned L W e w' → GivesIE (turnedL L) 0 W e w') := Lib.hid (fun W e w' h => by unfold GTurned at h; rwa [if_pos hR] at h)
      clear hr hg hf1 hf2 hfew hef hel hok hR
      go_enter Try.func4, Try.ntmps4
      go_wp2_with (first
        | (go_at_call 14; refine GG.out.mono ?_; rintro e w1 ⟨rfl, hb1⟩)
        | (go_at_call 15; refine (G1.out _ hb1).mono ?_; rintro e w2 ⟨A2, c2, qs, rfl, k1, k2, k3, k4, hb2⟩; have K3 := Lib.hid k3; obtain ⟨f3, f4⟩ := HF.out qs k3; clear k3; have hb2' := hb1.trans (hb2.mono hb1.size))
        | (go_at_call 16; refine (G2.out _ hb2').mono ?_; rintro e w3 ⟨A3, c3, us, rfl, m1, m2, m3, m4, hb3⟩; have M3 := Lib.hid m3; obtain ⟨f5, f6⟩ := HF.out us m3; clear m3; have hb3' := hb2'.trans (hb3.mono hb2'.size); have k5 := (k4.below hb3).more hb3.size; have tok1 : True := trivial)
        | (have _t := tok1; go_at_call 17; refine (GS.out A2 A3 qs us c2 c3 _ (by rw [K3.out, M3.out]) f4 f6 f3 f5 k5 m4).mono ?_; clear _t tok1; rintro e w4 ⟨rfl, n4, rfl⟩; have hb4 := below_draws hb3' n4; have k6 := (k5.below (below_draws (Below.refl _ w3) n4)).more (Nat.le_refl _); have m6 := (m4.below (below_draws (Below.refl _ w3) n4)).more (Nat.le_refl _))
        | (go_at_call 18; refine (gturned_any A2 qs c2 _ k6).mono ?_; intro e w5 h5; rw [K3.out] at h5; obtain ⟨A5, c5, ts, rfl, l1, l2, l3, l4, hb5⟩ := HG.out _ _ _ h5; clear h5; have L3 := Lib.hid l3; obtain ⟨f7, f8⟩ := HF2.out ts l3; clear l3; have hb5' := hb4.trans (hb5.mono hb4.size); have m7 := (m6.below hb5).more hb5.size)
        | (go_at_call 19; refine (rturned_any A3 us c3 _ (by omega) f5 m7).mono ?_; intro e w6 h6; rw [M3.out] at h6; obtain ⟨A6, c6, vs, rfl, o1, o2, o3, o4, hb6⟩ := h6; have O3 := Lib.hid o3; obtain ⟨f9, f10⟩ := HF2.out vs o3; clear o3; have hb6' := hb5'.trans (hb6.mono hb5'.size); have l5 := (l4.below hb6).more hb6.size; have tok2 : True := trivial)
        | (have _t := tok2; go_at_call 17; refine (GS.out A5 A6 ts vs c5 c6 _ (by rw [L3.out, O3.out]) f8 f10 f7 f9 l5 o4).mono ?_; clear _t tok2; rintro e w7 ⟨rfl, n7, rfl⟩; have hb7 := below_draws hb6' n7)
        | (go_at_call 10; refine (GA.out _).mono ?_; rintro e w8 ⟨rfl, hb8⟩))
      go_ret
      exact ⟨rfl, hb7.trans (hb8.mono hb7.size)⟩
    · have e1 : (x != 0) = true := by simpa using hx
      clear hr hg hf1 hf2 hfew hef hel hok hx
      go_enter Try.func4, Try.ntmps4
      go_wp2_with (first
        | (go_at_call 14; refine GG.out.mono ?_; rintro e w1 ⟨rfl, hb1⟩)
        | (go_at_call 15; refine (G1.out _ hb1).mono ?_; rintro e w2 ⟨A2, c2, qs, rfl, k1, k2, k3, k4, hb2⟩; have K3 := Lib.hid k3; obtain ⟨f3, f4⟩ := HF.out qs k3; clear k3; have hb2' := hb1.trans (hb2.mono hb1.size))
        | (go_at_call 16; refine (G2.out _ hb2').mono ?_; rintro e w3 ⟨A3, c3, us, rfl, m1, m2, m3, m4, hb3⟩; have M3 := Lib.hid m3; obtain ⟨f5, f6⟩ := HF.out us m3; clear m3; have hb3' := hb2'.trans (hb3.mono hb2'.size); have k5 := (k4.below hb3).more hb3.size)
        | (go_at_call 17; refine (GS.out A2 A3 qs us c2 c3 _ (by rw [K3.out, M3.out]) f4 f6 f3 f5 k5 m4).mono ?_; rintro e w4 ⟨rfl, n4, rfl⟩; have hb4 := below_draws hb3' n4)
        | (go_at_call 10; refine (GA.out _).mono ?_; rintro e w8 ⟨rfl, hb8⟩))
      go_ret
      exact ⟨rfl, hb4.trans (hb8.mono hb4.size)⟩
end Go.Proofs.Ytojmcjkeniepcaa.GraphEdges
