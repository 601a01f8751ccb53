/-
  SafeFolds: the walk: what any plans make in place, of any old image, in any order, or the error, is the document's; the old image stays as it is.
-/
import Derived.Test.YtheofegmbajmkaaSaM
namespace Go.Proofs.Ytheofegmbajmkaa.SafeFolds
open Go.ChangeShapes Go.WideShapes Go.ChangeAt Go.RowKit Go.Proofs.Ytheofegmbajmkaa.Kit Go.Proofs.Ytheofegmbajmkaa.Pl Go.Proofs.Ytheofegmbajmkaa.Gr Go.Proofs.Ytheofegmbajmkaa.Sa

theorem plans_oct {w : World} {B : Nat} {A : Option Addr} {ps : List Plan} (h : HoldsP w B A ps) : ∀ p ∈ ps, ∀ s ∈ p.ss, Octets s.zs := by
  intro p hp s hs
  obtain ⟨i, hi, rfl⟩ := List.getElem_of_mem hp
  obtain ⟨_, _, _, _, _, _, _, h6⟩ := planAt h hi
  obtain ⟨j, hj, rfl⟩ := List.getElem_of_mem hs
  obtain ⟨_, _, _, _, _, _, _, _, _, _, _, _, _, ho, _⟩ := stepAt h6 hj
  exact ho

set_option maxRecDepth 100000 in
set_option maxHeartbeats 6400000 in
theorem walk (Ab : Option Addr) (b : List Int) (cb : Nat) (A : Option Addr) (ps : List Plan) (c : Nat) (A1 : Option Addr) (xs : List Int) (c1 : Nat) (bl new : Int) (w : World) (hl0 : b.length ≤ cb) (hm0 : cb ≤ maxLen) (ho0 : Octets b) (hr0 : Holds w w.heap.size .u8 Ab b) (hl : ps.length ≤ c) (hm : c ≤ maxLen) (hr : HoldsP w w.heap.size A ps)
    (hl1 : xs.length ≤ c1) (hm1 : c1 ≤ maxLen) (_ : ∀ n ∈ xs, (Lit.int .i64 n).wf = true) (hr1 : Holds w w.heap.size .i64 A1 xs) (_ : (Lit.int .i64 bl).wf = true) (wn : (Lit.int .i64 new).wf = true) :
    Calls Try.prog 4 #[.slice Ab b.length cb, .slice A ps.length c, .slice A1 xs.length c1, .int .i64 bl, .int .i64 new] w fun e w' => e = .returned (.bool true) ∧ Below w.heap.size w w' := by
  have GG := Lib.hid (greatp_any A ps c w hl hm hr)
  have GA := Lib.hid Sa.awake_any
  cases hg : greatP ps with
  | true =>
    rw [hg] at GG
    clear hr hr0 hr1 hg
    go_enter Try.func4, Try.ntmps4
    go_wp2_with (first
      | (go_at_call 6; refine GG.out.mono ?_; rintro e w1 ⟨rfl, hb1⟩)
      | (go_at_call 7; refine (GA.out _).mono ?_; rintro e w5 ⟨rfl, hb5⟩))
    go_ret
    exact ⟨rfl, hb1.trans (hb5.mono hb1.size)⟩
  | false =>
    rw [hg] at GG
    obtain ⟨hf1, hf2⟩ := greatP_no hg
    by_cases h60 : (60 : Int) < (xs.length : Int)
    · have d1 : decide ((60 : Int) < (xs.length : Int)) = true := decide_eq_true h60
      clear hr hr0 hr1 hg
      go_enter Try.func4, Try.ntmps4
      go_wp2_with (first
        | (go_at_call 6; refine GG.out.mono ?_; rintro e w1 ⟨rfl, hb1⟩)
        | (go_at_call 7; refine (GA.out _).mono ?_; rintro e w5 ⟨rfl, hb5⟩))
      go_ret
      exact ⟨rfl, hb1.trans (hb5.mono hb1.size)⟩
    have d1 : decide ((60 : Int) < (xs.length : Int)) = false := decide_eq_false h60
    by_cases h5 : (5000 : Int) < (b.length : Int)
    · have d2 : decide ((5000 : Int) < (b.length : Int)) = true := decide_eq_true h5
      clear hr hr0 hr1 hg
      go_enter Try.func4, Try.ntmps4
      go_wp2_with (first
        | (go_at_call 6; refine GG.out.mono ?_; rintro e w1 ⟨rfl, hb1⟩)
        | (go_at_call 7; refine (GA.out _).mono ?_; rintro e w5 ⟨rfl, hb5⟩))
      go_ret
      exact ⟨rfl, hb1.trans (hb5.mono hb1.size)⟩
    have d2 : decide ((5000 : Int) < (b.length : Int)) = false := decide_eq_false h5
    by_cases h6 : (5000 : Int) < new
    · have d3 : decide ((5000 : Int) < new) = true := decide_eq_true h6
      clear hr hr0 hr1 hg
      go_enter Try.func4, Try.ntmps4
      go_wp2_with (first
        | (go_at_call 6; refine GG.out.mono ?_; rintro e w1 ⟨rfl, hb1⟩)
        | (go_at_call 7; refine (GA.out _).mono ?_; rintro e w5 ⟨rfl, hb5⟩))
      go_ret
      exact ⟨rfl, hb1.trans (hb5.mono hb1.size)⟩
    have d3 : decide ((5000 : Int) < new) = false := decide_eq_false h6
    have hwn : -9223372036854775808 ≤ new ∧ new ≤ 9223372036854775807 := by simpa [Lit.wf, IntKind.min, IntKind.max, IntKind.signed, IntKind.bits] using wn
    have hpo := plans_oct hr
    have G1 := Lib.hid (fun (Ao : Option Addr) (co : Nat) W (hb : Below w.heap.size w W) (k1 : b.length ≤ co) (k2 : co ≤ maxLen) (k3 : Holds W W.heap.size .u8 Ao b) => sfold_any Ao b co A ps c A1 xs c1 bl new W (by omega) k1 k2 ho0 k3 hf1 hf2 (by omega) (by omega) hpo ((hr.below hb).more hb.size) ((hr1.below hb).more hb.size))
    have G2 := Lib.hid (fun W (hb : Below w.heap.size w W) => rfold_any Ab b cb A ps c A1 xs c1 bl new W (by omega) hl0 hm0 ho0 ((hr0.below hb).more hb.size) hf1 hf2 (by omega) (by omega) hpo ((hr.below hb).more hb.size) ((hr1.below hb).more hb.size))
    have HR0 := Lib.hid (fun W (hb : Below w.heap.size w W) => (hr0.below hb).more hb.size)
    obtain ⟨⟨R, er⟩, hE⟩ : ∃ E, foldE b ps xs bl new = E := ⟨_, rfl⟩
    rw [hE] at G1 G2
    simp only at G1 G2
    have hx : (er == er) = true := by simp
    have HLb : Hid (b.length ≤ 5000) := Lib.hid (by omega)
    obtain ⟨s1, hs1⟩ : ∃ s, strOfNums R = s := ⟨_, rfl⟩
    obtain ⟨s2, hs2⟩ : ∃ s, strOfNums b = s := ⟨_, rfl⟩
    have HS1 := Lib.hid hs1
    have HS2 := Lib.hid hs2
    clear hr hr0 hr1 hg hf1 hf2 hwn hpo hE hs1 hs2 ho0 wn h5 h60
    go_enter Try.func4, Try.ntmps4
    go_wp2_with (first
      | (go_at_call 6; refine GG.out.mono ?_; rintro e w1 ⟨rfl, hb1⟩; have own0 := Own.empty (B := w.heap.size) w1 5 .u8 hb1.size; have hb2 := hb1.alloc hb1.size (.cells #[] 5); have hrb := HR0.out _ hb2)
      | (at_builtin; refine wpList_append_ints (xs := []) (ys := b) _ rfl _ _ _ rfl elem8 own0 rfl rfl hrb (by have := HLb.out; simp; omega) hb2.size ?_; intro v3 w3 own3 g3 hb3 hv3; rw [List.nil_append] at own3; have hb3' := hb2.trans hb3; obtain ⟨A3, c3, rfl, k1, k2, k3⟩ := own3.opened)
      | (go_at_call 10; refine (G1.out A3 c3 _ hb3' k1 k2 k3).mono ?_; rintro e w4 ⟨A4, c4, rfl, hh4, hc4, hm4, hb4⟩; have hb4' := hb3'.trans (hb4.mono hb3'.size); have k4 := (k3.below hb4).more hb4.size)
      | (go_at_call 11; refine (G2.out _ hb4').mono ?_; rintro e w6 ⟨A6, c6, rfl, hh6, hc6, hm6, hb6⟩; have hb6' := hb4'.trans (hb6.mono hb4'.size); have hh5 := (hh4.below hb6).more hb6.size; have k6 := (k4.below hb6).more hb6.size; have f1 := conv_any w6 A4 R c4 _ hh5; have f2 := conv_any w6 A6 R c6 _ hh6; have f3 := conv_any w6 A3 b c3 _ k6; have f4 := conv_any w6 Ab b cb _ (HR0.out _ hb6'); rw [HS1.out] at f1 f2; rw [HS2.out] at f3 f4)
      | (go_at_call 7; refine (GA.out _).mono ?_; rintro e w7 ⟨rfl, hb7⟩))
    go_ret
    exact ⟨rfl, hb6'.trans (hb7.mono hb6'.size)⟩
end Go.Proofs.Ytheofegmbajmkaa.SafeFolds
