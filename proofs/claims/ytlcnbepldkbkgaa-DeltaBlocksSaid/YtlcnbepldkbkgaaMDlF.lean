/-
  Layer 17, delta.Plans at one input; the document's example: contracts. Conditions: as each theorem names.
-/
import Derived.Test.YtlcnbepldkbkgaaMGDcks22
import Derived.Test.YtlcnbepldkbkgaaMGDcks7
import Derived.Deep.QuietTactic
namespace Go.Proofs.Ytlcnbepldkbkgaa.Dl
open Go.ChangeShapes Go.WideShapes Go.ChangeAt Go.RowKit Go.Proofs.Ytlcnbepldkbkgaa.Kit Go.Proofs.Ytlcnbepldkbkgaa.Mx Go.Proofs.Ytlcnbepldkbkgaa.Sx Go.Proofs.Ytlcnbepldkbkgaa.Pl Go.Proofs.Ytlcnbepldkbkgaa.Mt

theorem none_found {ps : List Pc} {ys : List Int} {e i : Nat} (h : FoundL [] ys ps e i) : ps = [] := by
  cases ps with
  | nil => rfl
  | cons p ps =>
    have h1 := one_bd (runL_one h.run p (by simp))
    simp only [List.length_nil] at h1
    omega
theorem elemSS : ValElem Try.prog 33 26 (.slice none 0 0) 24 := by
  refine ⟨?_, ?_, ?_, ?_⟩ <;> first | kernel_rfl | rfl | decide

set_option maxRecDepth 100000 in
set_option maxHeartbeats 6400000 in
theorem plans_one (A : Option Addr) (c : Nat) (w : World) (hc : 1 ≤ c) (hr : Holds w w.heap.size .u8 A [97]) :
    Calls Try.prog 14 #[.slice none 0 0, .slice A 1 c, .int .i64 128] w fun e w' => ∃ (A' : Option Addr) (c' : Nat), e = .returned (.tuple #[.slice A' 1 c', .int .i64 0]) ∧ Below w.heap.size w w' := by
  have ob : Octets [97] := by intro x hx; obtain rfl : x = 97 := (by simpa using hx); omega
  have GI := Lib.hid (fun W => isBlock_any 128 W)
  rw [show isBlkB 128 = true by decide] at GI
  have GB := Lib.hid (fun W => blocks_any 1 128 (by unfold In64; omega) (by unfold In64; omega) W)
  rw [show blocksI 1 128 = 1 by decide] at GB
  have GF := Lib.hid (find_any (w := w) (xs := []) (ys := [97]) none A 0 c Holds.nil hr (by simp) (by simp) (by intro x hx; simp at hx) ob hc)
  have GK := Lib.hid (fun W (hW : Below w.heap.size w W) => block_any A [97] c 128 0 W (by unfold In64; omega) (by unfold In64; omega) (by simp) hc ((hr.below hW).more hW.size))
  rw [show blockL [97] 128 0 = [97] by decide] at GK
  have GP := Lib.hid (fun A5 c5 W h5 hW A0 c0 => planOf_none (.slice none 0 0) A0 c0 A5 [97] c5 0 W (by simp) (by simp) h5 ob hW)
  clear hr
  go_enter Try.func14, Try.ntmps14
  go_wp2_with (first
    | (go_at_call 17; (with_reducible refine (GI.out _).mono ?_); rintro e w1 ⟨rfl, rfl⟩)
    | (go_at_call 18; refine GF.out.mono ?_; rintro e w2 ⟨A0, c0, ps, e9, rfl, hfl, hh, hb⟩; obtain rfl := none_found hfl; have HB := Lib.hid hb; clear hfl hh hb)
    | (go_at_call 7; (with_reducible refine (GB.out _).mono ?_); rintro e w1 ⟨rfl, rfl⟩))
  go_loopw [8, 9, 30] (fun sp sl si wr => sp = .slice A0 0 c0 ∧ ((sl = .slice none 0 0 ∧ si = .int .i64 0) ∨ (∃ A' c', sl = .slice A' 1 c' ∧ si = .int .i64 1)) ∧ Below w.heap.size w wr) (fun _ _ si _ => 1 - (intOf si).toNat)
  case atStart => exact ⟨rfl, .inl ⟨rfl, rfl⟩, HB.out⟩
  case round =>
    obtain ⟨rfl, hd, hB⟩ := hrel
    rcases hd with ⟨rfl, rfl⟩ | ⟨A', c', rfl, rfl⟩
    · go_wp2_with fail
      go_loopw [8] (fun sp wx => sp = .slice A0 0 c0 ∧ Below w.heap.size w wx) (fun _ _ => 0)
      case atStart => exact ⟨rfl, hB⟩
      case round =>
        obtain ⟨rfl, hB2⟩ := hrel
        go_wp2_with fail
        go_quiet (fail)
        have hB3 := below_draws hB2 nq
        have HB3 := Lib.hid hB3
        have GK1 := Lib.hid (GK.out _ hB3)
        clear hB hB2 hB3
        go_wp2_with (first
          | (go_at_call 9; refine GK1.out.mono ?_; rintro e w4 ⟨v4, rfl, own4, hb4⟩; obtain ⟨A5, c5, rfl, k5, _, hh5⟩ := own4.opened; have GP1 := Lib.hid (GP.out A5 c5 w4 k5 hh5 A0 c0); have HB4 := Lib.hid (HB3.out.trans (hb4.mono HB3.out.size)); clear own4 hb4 hh5 GK1)
          | (go_at_call 19; have _t := GP1; clear _t; refine GP1.out.mono ?_; rintro e w6 ⟨A6, c6, A7, c7, rfl, own6, dat6, k6, k7, hb6⟩; have HB6 := Lib.hid (HB4.out.trans (hb6.mono HB4.out.size)); clear own6 dat6 k6 k7 hb6 GP1)
          | (at_builtin; go_loud (refine wpList_append_val rfl _ _ _ rfl elemSS (OwnV.nil w6 w.heap.size _) rfl rfl rfl (by simp) HB6.out.size ?_; intro v8 w8 own8 hg8 hb8; obtain ⟨g8, c8, rfl, _, _⟩ := own8.form (by simp))))
        go_roundw
        case rel => exact ⟨rfl, .inr ⟨_, _, rfl, rfl⟩, HB6.out.trans hb8⟩
        case measure => decide
    · go_wp2_with fail
      go_ret2
      exact ⟨A', c', rfl, hB⟩

set_option maxRecDepth 100000 in
set_option maxHeartbeats 3200000 in
theorem awake_any (w : World) : Calls Try.prog 6 #[] w fun e w' => e = .returned (.bool true) ∧ Below w.heap.size w w' := by
  have B1 := (Below.refl w.heap.size w).alloc (Nat.le_refl _) (.cells #[.int .u8 97] 5 (1, 2))
  have kc : ∀ W : World, (convert 22 22 (.slice (some ⟨W.heap.size, 0, none⟩) 1 1)).run Try.prog (W.alloc (.cells #[.int .u8 97] 5)) = .ok (.slice (some ⟨W.heap.size, 0, none⟩) 1 1) (W.alloc (.cells #[.int .u8 97] 5 (1, 2))) := fun W => Lib.run_convert_bytes_const (P := Try.prog) W 22 5 #[.int .u8 97] 1 1 Try.underlying22 Try.underlying5
  have hr : Holds (w.alloc (.cells #[.int .u8 97] 5 (1, 2))) (w.alloc (.cells #[.int .u8 97] 5 (1, 2))).heap.size .u8 (some ⟨w.heap.size, 0, none⟩) [97] := holds_const (zs := [97]) (1, 2)
  have GP := Lib.hid (plans_one (some ⟨w.heap.size, 0, none⟩) 1 _ (by omega) hr)
  have GB := Lib.hid (fun W => blocks_any 300 128 (by unfold In64; omega) (by unfold In64; omega) W)
  rw [show blocksI 300 128 = 3 by decide] at GB
  clear hr
  go_enter Try.func6, Try.ntmps6
  go_wp2_with (first
    | (go_at_call 14; refine GP.out.mono ?_; rintro e w1 ⟨A', c', rfl, hb⟩; have HB := Lib.hid (B1.trans (hb.mono B1.size)); clear hb)
    | (go_at_call 7; (with_reducible refine (GB.out _).mono ?_); rintro e w2 ⟨rfl, rfl⟩))
  go_ret
  exact ⟨rfl, HB.out⟩
end Go.Proofs.Ytlcnbepldkbkgaa.Dl
