/-
  OrderOf: the walk: the order of any lists, and what is broken, or the error, are the document's; the order is right.
-/
import Derived.Test.YtojmcjkeniepcaaMGOrOf21
import Derived.Test.YtojmcjkeniepcaaMOrS
namespace Go.Proofs.Ytojmcjkeniepcaa.OrderOf
open Go.ChangeShapes Go.WideShapes Go.ChangeAt Go.RowKit Go.Proofs.Ytojmcjkeniepcaa.Kit Go.Proofs.Ytojmcjkeniepcaa.Gr Go.Proofs.Ytojmcjkeniepcaa.Ord Go.Proofs.Ytojmcjkeniepcaa.Ordr

theorem holds_drew {w : World} {B : Nat} {k : IntKind} {A : Option Addr} {xs : List Int} (h : Holds w B k A xs) (n : Nat) : Holds (w.drewN n) B k A xs := h
theorem holds_own {w : World} {k : IntKind} {A : Option Addr} {xs : List Int} (h : Holds w w.heap.size k A xs) (n : Nat) : Holds (w.drewN n) (w.drewN n).heap.size k A xs := h
set_option maxRecDepth 100000 in
set_option maxHeartbeats 6400000 in
theorem walk (A : Option Addr) (rs : List Ri) (c : Nat) (w : World) (hl : rs.length ≤ c) (hm : c ≤ maxLen) (hr : HoldsI w w.heap.size A rs) :
    Calls Try.prog 6 #[.slice A rs.length c] w fun e w' => e = .returned (.bool true) ∧ Below w.heap.size w w' := by
  have GG := Lib.hid (great_any A rs c w hl hm hr)
  have GA := Lib.hid Ord.awake_any
  cases hg : greatI rs with
  | true =>
    rw [hg] at GG
    clear hr hg
    go_enter Try.func6, Try.ntmps6
    go_wp2_with (first
      | (go_at_call 20; refine GG.out.mono ?_; rintro e w1 ⟨rfl, rfl⟩)
      | (go_at_call 22; refine (GA.out _).mono ?_; rintro e w5 ⟨rfl, hb5⟩))
    go_ret
    exact ⟨rfl, hb5⟩
  | false =>
    rw [hg] at GG
    obtain ⟨hf1, hf2⟩ := greatI_no hg
    have hfew : Few rs := fun r hr => by have := hf2 r hr; omega
    have GO := of_any A rs c w hr
    have GR := Lib.hid (fun W (hb : Below w.heap.size w W) => right_any A rs c W hfew ((hr.below hb).more hb.size))
    unfold OfR at GO
    by_cases hR : RightL (rowsL rs)
    case neg =>
      simp only [if_neg hR] at GO
      rw [decide_eq_false hR] at GR
      have GOH := Lib.hid GO
      clear GO hg hf2 hR hr hfew
      go_enter Try.func6, Try.ntmps6
      go_wp2_with (first
        | (go_at_call 20; refine GG.out.mono ?_; rintro e w1 ⟨rfl, rfl⟩)
        | (go_at_call 23; refine GOH.out.mono ?_; rintro e w2 ⟨rfl, hb2⟩)
        | (go_at_call 21; refine (GR.out _ hb2).mono ?_; rintro e w3 ⟨rfl, n3, rfl⟩; have hb3 := below_draws hb2 n3)
        | (go_at_call 22; refine (GA.out _).mono ?_; rintro e w5 ⟨rfl, hb5⟩))
      go_ret
      exact ⟨rfl, hb3.trans (hb5.mono hb3.size)⟩
    case pos =>
      simp only [if_pos hR] at GO
      rw [decide_eq_true hR] at GR
      have GOH := Lib.hid GO
      have GF := Lib.hid (fun W (hb : Below w.heap.size w W) => rof_any A rs c W hfew hR ((hr.below hb).more hb.size))
      obtain ⟨hok, hrt⟩ := of_right hR
      have hLn : (rowsL rs).length = rs.length := rowsL_length rs
      have hl1 : (ofL (rowsL rs)).1.length ≤ 5000 := by have := good_len hok.1; have := hR.1; omega
      have hl2 : (ofL (rowsL rs)).2.length ≤ 5000 := by have := good_len hok.2; have := hR.1; omega
      have GRT := Lib.hid (fun W (hb : Below w.heap.size w W) (Ao : Option Addr) (co : Nat) (Ab : Option Addr) (cb : Nat) (h1 : Holds W W.heap.size .i64 Ao (ofL (rowsL rs)).1) (h2 : Holds W W.heap.size .i64 Ab (ofL (rowsL rs)).2) =>
        oright_any A rs c Ao _ co Ab _ cb W (by omega) hl1 hl2 ((hr.below hb).more hb.size) h1 h2)
      rw [hrt] at GRT
      have GS := Lib.hid (fun (a : List Int) (ha : a.length ≤ 5000) (A1 A2 : Option Addr) (c1 c2 : Nat) (W : World) (h1 : Holds W W.heap.size .i64 A1 a) (h2 : Holds W W.heap.size .i64 A2 a) => same_any A1 A2 a a c1 c2 W (by omega) (by omega) h1 h2)
      simp only [decide_true] at GS
      clear GO hg hf2 hR hr hfew hok hrt hLn
      generalize ofL (rowsL rs) = R at *
      obtain ⟨o, b⟩ := R
      simp only at GOH GF GRT GS hl1 hl2
      go_enter Try.func6, Try.ntmps6
      go_wp2_with (first
        | (go_at_call 20; refine GG.out.mono ?_; rintro e w1 ⟨rfl, rfl⟩)
        | (go_at_call 23; refine GOH.out.mono ?_; rintro e w2 ⟨Ao, co, Ab, cb, rfl, ho, hb, hb2⟩; have HHO := Lib.hid ho; have HHB := Lib.hid hb; clear ho hb)
        | (go_at_call 21; refine (GR.out _ hb2).mono ?_; rintro e w3 ⟨rfl, n3, rfl⟩; have hb3 := below_draws hb2 n3)
        | (go_at_call 24; refine (GF.out _ hb3).mono ?_; rintro e w4 ⟨Ap, cp, Aq, cq, rfl, hp, hq, hb4⟩; have hb4' := hb3.trans (hb4.mono hb3.size); have ho4 := (holds_own HHO.out n3).on hb4; have hb4x := (holds_own HHB.out n3).on hb4; have Q1 := Lib.hid (GS.out o hl1 Ao Ap co cp w4 ho4 hp); have Q2 := Lib.hid (fun n => GS.out b hl2 Ab Aq cb cq (w4.drewN n) (holds_own hb4x n) (holds_own hq n)); have Q3 := Lib.hid (fun n => GRT.out (w4.drewN n) (below_draws hb4' n) Ao co Ab cb (holds_own ho4 n) (holds_own hb4x n)); clear ho4 hb4x; have HB4 := Lib.hid hb4'; clear hp hq hb4 hb4' hb3 hb2)
        | (go_at_call 13; have _t := Q1; clear _t; with_reducible refine Q1.out.mono ?_; rintro e w5 ⟨rfl, n5, rfl⟩; clear Q1)
        | (go_at_call 13; have _t := Q2; clear _t; refine (Q2.out n5).mono ?_; rintro e w6 ⟨rfl, n6, rfl⟩; clear Q2; rw [World.drewN_drewN]; have HB7 := Lib.hid (below_draws HB4.out (n5 + n6)); have Q4 := Lib.hid (Q3.out (n5 + n6)))
        | (go_at_call 25; have _t := Q4; clear _t; refine Q4.out.mono ?_; rintro e w7 ⟨rfl, hb7⟩; have hb7' := HB7.out.trans (hb7.mono HB7.out.size))
        | (go_at_call 22; refine (GA.out _).mono ?_; rintro e w8 ⟨rfl, hb8⟩))
      go_ret
      exact ⟨rfl, hb7'.trans (hb8.mono hb7'.size)⟩
end Go.Proofs.Ytojmcjkeniepcaa.OrderOf
