/-
  Layer 17, delta: the first literal; a plan where nothing is found: contracts. Conditions: as each theorem names.
  Layer 17, delta.planOf where nothing is found: a contract. Conditions: as each theorem names.
-/
import Derived.Test.YtlcnbepldkbkgaaMDlC
import Derived.Test.YtlcnbepldkbkgaaMGDcks7
namespace Go.Proofs.Ytlcnbepldkbkgaa.Dl
open Go.ChangeShapes Go.WideShapes Go.ChangeAt Go.RowKit Go.Proofs.Ytlcnbepldkbkgaa.Kit Go.Proofs.Ytlcnbepldkbkgaa.Mx Go.Proofs.Ytlcnbepldkbkgaa.Sx Go.Proofs.Ytlcnbepldkbkgaa.Pl

set_option maxRecDepth 100000 in
set_option maxHeartbeats 6400000 in
/-- The first bytes as they are. -/
theorem withLit_first (A : Option Addr) (xs : List Int) (c : Nat) (w : World) (h1 : 1 ≤ xs.length) (h2 : xs.length ≤ 4096) (hr : Holds w w.heap.size .u8 A xs) :
    Calls Try.prog 26 #[.slice none 0 0, .slice A xs.length c] w fun e w' => ∃ (A' : Option Addr) (c' : Nat) (A3 : Option Addr) (c3 : Nat), e = .returned (.slice A' 1 c') ∧ OwnSteps w' w.heap.size (.slice A' 1 c') [⟨1, 0, xs.length, A3, c3, xs⟩] ∧
      Own w' w.heap.size 5 .u8 (.slice A3 xs.length c3) xs ∧ xs.length ≤ c3 ∧ c3 ≤ maxLen ∧ Below w.heap.size w w' := by
  have GL := Lib.hid (literal_yes A xs c w h1 h2 hr)
  clear hr
  go_enter Try.func26, Try.ntmps26
  go_wp2_with (first
    | (go_at_call 11; refine GL.out.mono ?_; rintro e w1 ⟨A3, c3, w3, rfl, rfl, own3, k1, k2, hb3⟩; have HO := Lib.hid own3; have HB := Lib.hid hb3; have HK := Lib.hid k2; clear own3 hb3 k2)
    | (at_builtin; go_loud (refine wpList_append_step rfl _ _ rfl ⟨1, 0, xs.length, A3, c3, xs⟩ (OwnSteps.nil w3 w.heap.size) rfl rfl (by simp) HB.out.size ?_; intro A9 c9 w4 own4 tu)))
  go_ret
  have hb4 := tu.toBelow (B := w3.heap.size) (Nat.le_refl _) (fun b hb hs => by simp [Value.ownBlock] at hs)
  exact ⟨A9, c9, A3, c3, rfl, own4, Own.below HO.out hb4, k1, HK.out, HB.out.trans (hb4.mono HB.out.size)⟩
end Go.Proofs.Ytlcnbepldkbkgaa.Dl

namespace Go.Proofs.Ytlcnbepldkbkgaa.Dl
open Go.ChangeShapes Go.WideShapes Go.ChangeAt Go.RowKit Go.Proofs.Ytlcnbepldkbkgaa.Kit Go.Proofs.Ytlcnbepldkbkgaa.Mx Go.Proofs.Ytlcnbepldkbkgaa.Sx Go.Proofs.Ytlcnbepldkbkgaa.Pl

set_option maxRecDepth 100000 in
set_option maxHeartbeats 6400000 in
theorem planOf_none (v0 : Value) (A0 : Option Addr) (c0 : Nat) (A : Option Addr) (xs : List Int) (c : Nat) (from_ : Int) (w : World) (h1 : 1 ≤ xs.length) (h2 : xs.length ≤ 4096) (hc : xs.length ≤ c) (ho : Octets xs) (hr : Holds w w.heap.size .u8 A xs) :
    Calls Try.prog 19 #[v0, .slice A xs.length c, .int .i64 from_, .slice A0 0 c0] w fun e w' => ∃ (A' : Option Addr) (c' : Nat) (A3 : Option Addr) (c3 : Nat), e = .returned (.slice A' 1 c') ∧ OwnSteps w' w.heap.size (.slice A' 1 c') [⟨1, 0, xs.length, A3, c3, xs⟩] ∧
      Own w' w.heap.size 5 .u8 (.slice A3 xs.length c3) xs ∧ xs.length ≤ c3 ∧ c3 ≤ maxLen ∧ Below w.heap.size w w' := by
  obtain ⟨g, off, rfl, _, _⟩ := hr (by omega)
  have GW := Lib.hid (withLit_first (some ⟨g, off, none⟩) xs c w h1 h2 hr)
  have hc0 : ¬ c = 0 := by omega
  clear hr
  go_enter Try.func19, Try.ntmps19
  go_wp2_with fail
  go_loop [9, 10, 17] (fun l a i => l = .slice none 0 0 ∧ a = .int .i64 0 ∧ i = .int .i64 0) (fun _ _ _ => 0)
  case atStart => exact ⟨rfl, rfl, rfl⟩
  case round =>
    obtain ⟨rfl, rfl, rfl⟩ := hrel
    go_wp2_with fail
    refine GW.out.mono ?_
    rintro e w1 ⟨A', c', A3, c3, rfl, own, dat, k1, k2, hb⟩
    have hfine : ∀ s ∈ ([⟨1, 0, xs.length, A3, c3, xs⟩] : List Stp), FineS s ∧ Holds w1 w1.heap.size .u8 s.A s.zs := by
      intro s hs
      obtain rfl : s = _ := by simpa using hs
      refine ⟨⟨rfl, rfl, ?_, k1, k2, ho⟩, ?_⟩
      · show (decide (-9223372036854775808 ≤ (xs.length : Int)) && decide ((xs.length : Int) ≤ 9223372036854775807)) = true
        rw [decide_eq_true (by omega), decide_eq_true (by omega)]; rfl
      · obtain ⟨_, _, e1, _, _, hh⟩ := dat.opened
        injection e1 with e2 e3 e4
        subst e2 e4
        exact hh
    obtain ⟨q0, q1, q2, q3⟩ := own.holds hfine
    have GS := size_any A' [⟨1, 0, xs.length, A3, c3, xs⟩] c' w1 (by simp) q1 q2 q3
    obtain ⟨Z, hZ⟩ : ∃ Z : Int, (if ([⟨1, 0, xs.length, A3, c3, xs⟩] : List Stp).all rightS = true then ((putB [⟨1, 0, xs.length, A3, c3, xs⟩]).length : Int) else 0) = Z := ⟨_, rfl⟩
    have hZ1 : Z ≤ (xs.length : Int) + 12 := by
      have hn := numB_length (xs.length : Int)
      have hp : (putB [⟨1, 0, xs.length, A3, c3, xs⟩]).length = 1 + (numB (xs.length : Int)).length + xs.length := by simp [putB, putS]; omega
      rw [hp] at hZ
      split at hZ <;> omega
    have GS2 : Calls Try.prog 28 #[.slice A' 1 c'] w1 (Gives (.int .i64 Z) w1) := by rw [← hZ]; exact_mod_cast GS
    have HGS := Lib.hid GS2
    have d5 : decide ((xs.length : Int) + 12 < Z) = false := decide_eq_false (by omega)
    have HO := Lib.hid own
    have HD := Lib.hid dat
    have HB := Lib.hid hb
    have HK := Lib.hid k2
    clear GS GS2 hZ hfine q0 q1 q2 q3 own dat hb k2 GW
    go_wp2_with (go_at_call 28; refine HGS.out.mono ?_; rintro e w2 ⟨rfl, hb2⟩)
    go_ret
    exact ⟨A', c', A3, c3, rfl, OwnSteps.below HO.out hb2, Own.below HD.out hb2, k1, HK.out, HB.out.trans (hb2.mono HB.out.size)⟩
end Go.Proofs.Ytlcnbepldkbkgaa.Dl
