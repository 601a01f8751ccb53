/-
  GraphReads: the walk: in which blocks' places any plan asks for bytes, or the error, is the document's.
-/
import Derived.Test.YtojmcjkeniepcaaGrV
namespace Go.Proofs.Ytojmcjkeniepcaa.GraphReads
open Go.ChangeShapes Go.WideShapes Go.ChangeAt Go.RowKit Go.Proofs.Ytojmcjkeniepcaa.Kit Go.Proofs.Ytojmcjkeniepcaa.Pl Go.Proofs.Ytojmcjkeniepcaa.Gr

theorem readsL_length (ss : List Stp) (block many : Int) : (readsL ss block many).1.length ≤ 4096 := by
  unfold readsL
  split
  · simp
  · rename_i hm
    have hm' : mayB block many = true := by simpa using hm
    unfold mayB at hm'
    have := of_decide_eq_true hm'
    split
    · have := askedTo_length ss block many many.toNat
      show (askedTo ss block many many.toNat).length ≤ 4096
      omega
    · simp

set_option maxRecDepth 100000 in
set_option maxHeartbeats 6400000 in
theorem walk (A : Option Addr) (ss : List Stp) (c : Nat) (block many : Int) (w : World) (hl : ss.length ≤ c) (hm : c ≤ maxLen) (hr : HoldsE (StpIn .u8 .i64 .i64 w w.heap.size) 4 w w.heap.size A ss) (_ : (Lit.int .i64 block).wf = true) (_ : (Lit.int .i64 many).wf = true) :
    Calls Try.prog 3 #[.slice A ss.length c, .int .i64 block, .int .i64 many] w fun e w' => e = .returned (.bool true) ∧ Below w.heap.size w w' := by
  have GG := Lib.hid (great_any A ss c w hl hm hr)
  have GA := Lib.hid awake_any
  cases hg : greatB ss with
  | true =>
    rw [hg] at GG
    clear hr hg
    go_enter Try.func3, Try.ntmps3
    go_wp2_with (first
      | (go_at_call 9; refine GG.out.mono ?_; rintro e w1 ⟨rfl, hb1⟩)
      | (go_at_call 10; refine (GA.out _).mono ?_; rintro e w5 ⟨rfl, hb5⟩))
    go_ret
    exact ⟨rfl, hb1.trans (hb5.mono hb1.size)⟩
  | false =>
    rw [hg] at GG
    have hfew := (great_no hg).1
    by_cases h1 : 200 < many ∧ many ≤ 4096
    · have d1 : decide (200 < many) = true := decide_eq_true h1.1
      have d2 : decide (many ≤ 4096) = true := decide_eq_true h1.2
      clear hr hg h1
      go_enter Try.func3, Try.ntmps3
      go_wp2_with (first
        | (go_at_call 9; refine GG.out.mono ?_; rintro e w1 ⟨rfl, hb1⟩)
        | (go_at_call 10; refine (GA.out _).mono ?_; rintro e w5 ⟨rfl, hb5⟩))
      go_ret
      exact ⟨rfl, hb1.trans (hb5.mono hb1.size)⟩
    · have hd : decide (200 < many) = false ∨ (decide (200 < many) = true ∧ decide (many ≤ 4096) = false) := by
        by_cases h2 : 200 < many
        · exact .inr ⟨decide_eq_true h2, decide_eq_false (by omega)⟩
        · exact .inl (decide_eq_false h2)
      clear h1 hg
      have G1 := Lib.hid (fun W (hb : Below w.heap.size w W) => reads_any A ss c block many W (by omega) (steps_more (steps_below hr hb) hb.size))
      have G2 := Lib.hid (fun W (hb : Below w.heap.size w W) => rreads_any A ss c block many W (by omega) (steps_more (steps_below hr hb) hb.size))
      have hlen := readsL_length ss block many
      obtain ⟨r, hrr⟩ : ∃ r, readsL ss block many = r := ⟨_, rfl⟩
      rw [hrr] at G1 G2 hlen
      clear hrr
      obtain ⟨l, x⟩ := r
      simp only at hlen
      have GS : Hid (∀ (A1 A2 : Option Addr) (c1 c2 : Nat) (W : World), Holds W W.heap.size .i64 A1 l → Holds W W.heap.size .i64 A2 l → Calls Try.prog 13 #[.slice A1 l.length c1, .slice A2 l.length c2] W fun e w' => e = .returned (.bool true) ∧ ∃ n, w' = W.drewN n) := Lib.hid (fun A1 A2 c1 c2 W h1 h2 => by
        have := same_any A1 A2 l l c1 c2 W (by omega) (by omega) h1 h2
        rwa [decide_eq_true rfl] at this)
      have hx : (x == x) = true := by simp
      clear hr hfew
      rcases hd with d1 | ⟨d1, d2⟩
      all_goals
        go_enter Try.func3, Try.ntmps3
        go_wp2_with (first
          | (go_at_call 9; refine GG.out.mono ?_; rintro e w1 ⟨rfl, hb1⟩)
          | (go_at_call 11; refine (G1.out _ hb1).mono ?_; rintro e w2 ⟨A2, c2, rfl, k1, k2, k3, hb2⟩; have hb2' := hb1.trans (hb2.mono hb1.size); simp only at k1 k2 k3 ⊢)
          | (go_at_call 12; refine (G2.out _ hb2').mono ?_; rintro e w3 ⟨A3, c3, rfl, j1, j2, j3, hb3⟩; have hb3' := hb2'.trans (hb3.mono hb2'.size); simp only at j1 j2 j3 ⊢; have k4 := (k3.below hb3).more hb3.size)
          | (go_at_call 13; refine (GS.out A2 A3 c2 c3 _ k4 j3).mono ?_; rintro e w4 ⟨rfl, n4, rfl⟩; have hb4 := below_draws hb3' n4)
          | (go_at_call 10; refine (GA.out _).mono ?_; rintro e w5 ⟨rfl, hb5⟩))
        go_ret
        exact ⟨rfl, hb4.trans (hb5.mono hb4.size)⟩
end Go.Proofs.Ytojmcjkeniepcaa.GraphReads
