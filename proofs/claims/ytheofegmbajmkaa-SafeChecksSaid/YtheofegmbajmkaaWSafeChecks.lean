/-
  SafeChecks: the walk: whether plans may be done in place, in any order, or the error, is the document's.
-/
import Derived.Test.YtheofegmbajmkaaSaI
namespace Go.Proofs.Ytheofegmbajmkaa.SafeChecks
open Go.ChangeShapes Go.WideShapes Go.ChangeAt Go.RowKit Go.Proofs.Ytheofegmbajmkaa.Kit Go.Proofs.Ytheofegmbajmkaa.Pl Go.Proofs.Ytheofegmbajmkaa.Gr Go.Proofs.Ytheofegmbajmkaa.Sa

set_option maxRecDepth 100000 in
set_option maxHeartbeats 6400000 in
theorem walk (A : Option Addr) (ps : List Plan) (c : Nat) (A1 : Option Addr) (xs : List Int) (c1 : Nat) (bl old new : Int) (w : World) (hl : ps.length ≤ c) (hm : c ≤ maxLen) (hr : HoldsP w w.heap.size A ps)
    (hl1 : xs.length ≤ c1) (hm1 : c1 ≤ maxLen) (_ : ∀ n ∈ xs, (Lit.int .i64 n).wf = true) (hr1 : Holds w w.heap.size .i64 A1 xs) (_ : (Lit.int .i64 bl).wf = true) (_ : (Lit.int .i64 old).wf = true) (wn : (Lit.int .i64 new).wf = true) :
    Calls Try.prog 3 #[.slice A ps.length c, .slice A1 xs.length c1, .int .i64 bl, .int .i64 old, .int .i64 new] w fun e w' => e = .returned (.bool true) ∧ Below w.heap.size w w' := by
  have GG := Lib.hid (greatp_any A ps c w hl hm hr)
  have GA := Lib.hid Sa.awake_any
  cases hg : greatP ps with
  | true =>
    rw [hg] at GG
    clear hr hg
    go_enter Try.func3, Try.ntmps3
    go_wp2_with (first
      | (go_at_call 6; refine GG.out.mono ?_; rintro e w1 ⟨rfl, hb1⟩)
      | (go_at_call 7; refine (GA.out _).mono ?_; rintro e w5 ⟨rfl, hb5⟩))
    go_ret
    exact ⟨rfl, hb1.trans (hb5.mono hb1.size)⟩
  | false =>
    rw [hg] at GG
    obtain ⟨hf1, hf2⟩ := greatP_no hg
    by_cases h60 : (60 : Int) < (xs.length : Int)
    · have d1 : decide ((60 : Int) < (xs.length : Int)) = true := decide_eq_true h60
      clear hr hg
      go_enter Try.func3, Try.ntmps3
      go_wp2_with (first
        | (go_at_call 6; refine GG.out.mono ?_; rintro e w1 ⟨rfl, hb1⟩)
        | (go_at_call 7; refine (GA.out _).mono ?_; rintro e w5 ⟨rfl, hb5⟩))
      go_ret
      exact ⟨rfl, hb1.trans (hb5.mono hb1.size)⟩
    · have d1 : decide ((60 : Int) < (xs.length : Int)) = false := decide_eq_false h60
      have hnew : -9223372036854775808 ≤ new ∧ new ≤ 9223372036854775807 := by simpa [Lit.wf, IntKind.min, IntKind.max, IntKind.signed, IntKind.bits] using wn
      have G1 := Lib.hid (fun W (hb : Below w.heap.size w W) => scheck_any A ps c A1 xs c1 bl old new W hf1 hf2 (by omega) hnew ((hr.below hb).more hb.size) ((hr1.below hb).more hb.size))
      have G2 := Lib.hid (fun W (hb : Below w.heap.size w W) => rcheck_any A ps c A1 xs c1 bl old new W hf1 hf2 (by omega) hl1 hm1 hnew ((hr.below hb).more hb.size) ((hr1.below hb).more hb.size))
      generalize checkE ps xs bl old new = x at G1 G2
      have hx : (x == x) = true := by simp
      clear hr hr1 hg hf1 hf2 hnew
      go_enter Try.func3, Try.ntmps3
      go_wp2_with (first
        | (go_at_call 6; refine GG.out.mono ?_; rintro e w1 ⟨rfl, hb1⟩)
        | (go_at_call 8; refine (G1.out _ hb1).mono ?_; rintro e w2 ⟨rfl, hb2⟩; have hb2' := hb1.trans (hb2.mono hb1.size))
        | (go_at_call 9; refine (G2.out _ hb2').mono ?_; rintro e w3 ⟨rfl, hb3⟩; have hb3' := hb2'.trans (hb3.mono hb2'.size))
        | (go_at_call 7; refine (GA.out _).mono ?_; rintro e w5 ⟨rfl, hb5⟩))
      go_ret
      exact ⟨rfl, hb3'.trans (hb5.mono hb3'.size)⟩
end Go.Proofs.Ytheofegmbajmkaa.SafeChecks
