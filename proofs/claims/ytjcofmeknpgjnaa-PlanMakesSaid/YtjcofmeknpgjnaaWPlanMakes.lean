/-
  PlanMakes: the walk: both Evals answer alike, and the image stays.
-/
import Derived.Test.YtjcofmeknpgjnaaPlQ
namespace Go.Proofs.Ytjcofmeknpgjnaa.PlanMakes
open Go.ChangeShapes Go.WideShapes Go.ChangeAt Go.RowKit Go.Proofs.Ytjcofmeknpgjnaa.Kit Go.Proofs.Ytjcofmeknpgjnaa.Pl

set_option maxRecDepth 100000 in
set_option maxHeartbeats 6400000 in
theorem walk (A : Option Addr) (ss : List Stp) (c : Nat) (Ao : Option Addr) (old : List Int) (co : Nat) (want : Int) (w : World) (hc : ss.length ≤ c) (hm : c ≤ maxLen) (hr : HoldsE (StpIn .u8 .i64 .i64 w w.heap.size) 4 w w.heap.size A ss)
    (hco : old.length ≤ co) (hmo : co ≤ maxLen) (hoo : Octets old) (hro : Holds w w.heap.size .u8 Ao old) (_ : (Lit.int .i64 want).wf = true) :
    Calls Try.prog 5 #[.slice A ss.length c, .slice Ao old.length co, .int .i64 want] w fun e w' => e = .returned (.bool true) ∧ Below w.heap.size w w' := by
  have hr : HoldsS w A ss := hr
  have G := Lib.hid (great_any A ss c w hc hm hr)
  cases hg : greatB ss with
  | true =>
    rw [hg] at G
    go_enter Try.func5, Try.ntmps5
    go_wp2_with (first
      | (go_at_call 7; refine G.out.mono ?_; rintro e w1 ⟨rfl, hb1⟩)
      | (go_at_call 8; refine (awake_any _).mono ?_; rintro e w2 ⟨rfl, hb2⟩))
    go_ret
    exact ⟨rfl, hb1.trans (hb2.mono hb1.size)⟩
  | false =>
    rw [hg] at G
    by_cases ho : (2000 : Int) < old.length
    · have hd : decide ((2000 : Int) < (old.length : Int)) = true := decide_eq_true ho
      go_enter Try.func5, Try.ntmps5
      go_wp2_with (first
        | (go_at_call 7; refine G.out.mono ?_; rintro e w1 ⟨rfl, hb1⟩)
        | (go_at_call 8; refine (awake_any _).mono ?_; rintro e w2 ⟨rfl, hb2⟩))
      go_ret
      exact ⟨rfl, hb1.trans (hb2.mono hb1.size)⟩
    · have hd : decide ((2000 : Int) < (old.length : Int)) = false := decide_eq_false ho
      have hl := (great_no hg).1
      have GE := Lib.hid (fun (W : World) (v : Value) (h1 : HoldsS W A ss) (h2 : Src W v (some old)) => eval_any A ss c v (some old) want W (by omega) hc hm h1 h2)
      have GR := Lib.hid (fun (W : World) (h1 : HoldsS W A ss) (h2 : Holds W W.heap.size .u8 Ao old) => reval_any A ss c Ao old co want W (by omega) hc hm h1 (by omega) hco hmo hoo h2)
      generalize (evalE (some old) ss want).1 = zs at *
      generalize (evalE (some old) ss want).2 = why at *
      clear hg
      go_enter Try.func5, Try.ntmps5
      go_wp2_with (first
        | (go_at_call 7; refine G.out.mono ?_; rintro e w1 ⟨rfl, hb1⟩; have own0 := Own.empty (B := w.heap.size) w1 5 .u8 hb1.size; have hb2 := hb1.alloc hb1.size (.cells #[] 5))
        | (have _t := own0; at_builtin; refine wpList_append_out (xs := []) (ys := old) _ rfl _ _ _ rfl elem8 own0 rfl rfl (hro.below hb2) (by simp; omega) hb2.size ?_; clear _t; intro A5 c5 w5 own5 t5 n5; have hb5 := hb2.trans (own0.turned t5 hb2.size)))
      simp only [List.length_nil, Nat.zero_add, List.nil_append] at own5
      obtain ⟨A7, c7, hv7, hl7, hm7, hr7⟩ := own5.opened
      injection hv7 with e1 e2 e3
      subst e1 e3
      refine (GE.out w5 _ (holdsS_later hr hb5) ⟨A5, c5, rfl, by omega, hl7, hm7, hoo, hr7⟩).mono ?_
      rintro e w8 ⟨A8, c8, rfl, hr8, hl8, hm8, hb8⟩
      have hb8' := hb5.trans (hb8.mono hb5.size)
      have G9 := Lib.hid (GR.out w8 (holdsS_later hr hb8') ((hro.below hb8').more hb8'.size))
      clear GE GR G own0 t5 n5
      go_wp2_with fail
      refine G9.out.mono ?_
      rintro e w9 ⟨A9, c9, rfl, hr9, hl9, hm9, hb9⟩
      have hb9' := hb8'.trans (hb9.mono hb8'.size)
      have f1 := conv_any w9 A8 zs c8 _ (hr8.below hb9)
      have f2 := conv_any w9 A9 zs c9 _ hr9
      have f3 := conv_any w9 A5 old c5 _ ((hr7.below hb8).below (hb9.mono hb8.size))
      have f4 := conv_any w9 Ao old co _ (hro.below hb9')
      go_wp2_with (go_at_call 8; refine (awake_any _).mono ?_; rintro e w2 ⟨rfl, hb2⟩)
      go_ret
      exact ⟨rfl, hb9'.trans (hb2.mono hb9'.size)⟩
end Go.Proofs.Ytjcofmeknpgjnaa.PlanMakes
