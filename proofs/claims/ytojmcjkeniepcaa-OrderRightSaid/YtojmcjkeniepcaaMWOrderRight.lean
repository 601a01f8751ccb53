/-
  OrderRight: the walk: whether any order of any lists, with any broken ones, is right, is the document's.
-/
import Derived.Test.YtojmcjkeniepcaaMGOght21
namespace Go.Proofs.Ytojmcjkeniepcaa.OrderRight
open Go.ChangeShapes Go.WideShapes Go.ChangeAt Go.RowKit Go.Proofs.Ytojmcjkeniepcaa.Kit Go.Proofs.Ytojmcjkeniepcaa.Gr Go.Proofs.Ytojmcjkeniepcaa.Ord

set_option maxRecDepth 100000 in
set_option maxHeartbeats 6400000 in
theorem walk (A : Option Addr) (rs : List Ri) (c : Nat) (Ao : Option Addr) (o : List Int) (co : Nat) (Ab : Option Addr) (b : List Int) (cb : Nat) (w : World) (hl : rs.length ≤ c) (hm : c ≤ maxLen) (hr : HoldsI w w.heap.size A rs)
    (_ : o.length ≤ co) (_ : co ≤ maxLen) (_ : ∀ n ∈ o, (Lit.int .i64 n).wf = true) (hro : Holds w w.heap.size .i64 Ao o) (_ : b.length ≤ cb) (_ : cb ≤ maxLen) (_ : ∀ n ∈ b, (Lit.int .i64 n).wf = true) (hrb : Holds w w.heap.size .i64 Ab b) :
    Calls Try.prog 7 #[.slice A rs.length c, .slice Ao o.length co, .slice Ab b.length cb] w fun e w' => e = .returned (.bool true) ∧ Below w.heap.size w w' := by
  have GG := Lib.hid (great_any A rs c w hl hm hr)
  have GA := Lib.hid Ord.awake_any
  cases hg : greatI rs with
  | true =>
    rw [hg] at GG
    clear hr hg
    go_enter Try.func7, Try.ntmps7
    go_wp2_with (first
      | (go_at_call 20; refine GG.out.mono ?_; rintro e w1 ⟨rfl, rfl⟩)
      | (go_at_call 22; refine (GA.out _).mono ?_; rintro e w5 ⟨rfl, hb5⟩))
    go_ret
    exact ⟨rfl, hb5⟩
  | false =>
    rw [hg] at GG
    obtain ⟨hf1, hf2⟩ := greatI_no hg
    have hfew : Few rs := fun r hr => by have := hf2 r hr; omega
    by_cases h1 : (60 : Int) < (o.length : Int)
    · have d1 : decide ((60 : Int) < (o.length : Int)) = true := decide_eq_true h1
      clear hr hg hro hrb
      go_enter Try.func7, Try.ntmps7
      go_wp2_with (first
        | (go_at_call 20; refine GG.out.mono ?_; rintro e w1 ⟨rfl, rfl⟩)
        | (go_at_call 22; refine (GA.out _).mono ?_; rintro e w5 ⟨rfl, hb5⟩))
      go_ret
      exact ⟨rfl, hb5⟩
    · have d1 : decide ((60 : Int) < (o.length : Int)) = false := decide_eq_false h1
      by_cases h2 : (60 : Int) < (b.length : Int)
      · have d2 : decide ((60 : Int) < (b.length : Int)) = true := decide_eq_true h2
        clear hr hg hro hrb
        go_enter Try.func7, Try.ntmps7
        go_wp2_with (first
          | (go_at_call 20; refine GG.out.mono ?_; rintro e w1 ⟨rfl, rfl⟩)
          | (go_at_call 22; refine (GA.out _).mono ?_; rintro e w5 ⟨rfl, hb5⟩))
        go_ret
        exact ⟨rfl, hb5⟩
      · have d2 : decide ((60 : Int) < (b.length : Int)) = false := decide_eq_false h2
        have G1 := Lib.hid (oright_any A rs c Ao o co Ab b cb w (by omega) (by omega) (by omega) hr hro hrb)
        have G2 := Lib.hid (fun W (hb : Below w.heap.size w W) => rright_any A rs c Ao o co Ab b cb W hfew (by omega) (by omega) (by omega) ((hr.below hb).more hb.size) ((hro.below hb).more hb.size) ((hrb.below hb).more hb.size))
        generalize rightR (rowsL rs) o b = x at G1 G2
        have hx : (x == x) = true := by simp
        clear hr hg hro hrb hfew hf2
        go_enter Try.func7, Try.ntmps7
        go_wp2_with (first
          | (go_at_call 20; refine GG.out.mono ?_; rintro e w1 ⟨rfl, rfl⟩)
          | (go_at_call 25; refine G1.out.mono ?_; rintro e w2 ⟨rfl, hb2⟩)
          | (go_at_call 26; refine (G2.out _ hb2).mono ?_; rintro e w3 ⟨rfl, hb3⟩; have hb3' := hb2.trans (hb3.mono hb2.size))
          | (go_at_call 22; refine (GA.out _).mono ?_; rintro e w5 ⟨rfl, hb5⟩))
        go_ret
        exact ⟨rfl, hb3'.trans (hb5.mono hb3'.size)⟩
end Go.Proofs.Ytojmcjkeniepcaa.OrderRight
