/-
  ScriptTexts: the walk: any bytes as a text, and any text's bytes, are the document's, there and back.
-/
import Derived.Test.YtpdlibegjkbknaaMGSxts4
namespace Go.Proofs.Ytpdlibegjkbknaa.ScriptTexts
open Go.ChangeShapes Go.WideShapes Go.ChangeAt Go.RowKit Go.Proofs.Ytpdlibegjkbknaa.Kit Go.Proofs.Ytpdlibegjkbknaa.Tx

set_option maxRecDepth 100000 in
set_option maxHeartbeats 3200000 in
theorem awake_any (w : World) : Calls Try.prog 5 #[] w fun e w' => e = .returned (.bool true) ∧ Below w.heap.size w w' := by
  have hB := (Below.refl w.heap.size w).alloc (Nat.le_refl _) (.cells #[.int .u8 10, .int .u8 255] 5)
  have hr : Holds (w.alloc (.cells #[.int .u8 10, .int .u8 255] 5)) (w.alloc (.cells #[.int .u8 10, .int .u8 255] 5)).heap.size .u8 (some ⟨w.heap.size, 0, none⟩) [10, 255] := by
    have blk := Block.new w 5 #[.int .u8 10, .int .u8 255]
    intro _
    refine ⟨w.heap.size, 0, rfl, by simp, fun j hj => ?_⟩
    match j, hj with
    | 0, _ => exact blk.cell 0
    | 1, _ => exact blk.cell 1
  have GH := hex_any (some ⟨w.heap.size, 0, none⟩) [10, 255] 2 _ (by simp) (by intro x hx; simp at hx; omega) hr
  rw [show strOfNums (hexL [10, 255]) = ⟨#[48, 97, 102, 102]⟩ by rfl] at GH
  have G := Lib.hid GH
  have HB := Lib.hid hB
  clear GH hB hr
  go_enter Try.func5, Try.ntmps5
  go_wp2_with (go_at_call 6; refine G.out.mono ?_; rintro e w1 ⟨rfl, hb1⟩)
  go_ret
  exact ⟨rfl, HB.out.trans (hb1.mono HB.out.size)⟩

set_option maxRecDepth 100000 in
set_option maxHeartbeats 12800000 in
theorem walk (A : Option Addr) (xs : List Int) (c : Nat) (s : ByteArray) (w : World) (hl : xs.length ≤ c) (hm : c ≤ maxLen) (ho : Octets xs) (hr : Holds w w.heap.size .u8 A xs) (hs : s.size ≤ maxLen) :
    Calls Try.prog 3 #[.slice A xs.length c, .string s] w fun e w' => e = .returned (.bool true) ∧ Below w.heap.size w w' := by
  have GA := Lib.hid awake_any
  unfold maxLen at hs hm
  by_cases h1 : 2000 < xs.length
  · have d1 : decide ((2000 : Int) < (xs.length : Int)) = true := decide_eq_true (by omega)
    have d2 : decide (2000 < xs.length) = true := decide_eq_true h1
    go_enter Try.func3, Try.ntmps3
    go_wp2_with (go_at_call 5; (with_reducible refine (GA.out _).mono ?_); rintro e w1 ⟨rfl, hb1⟩)
    go_ret
    exact ⟨rfl, hb1⟩
  have d1 : decide ((2000 : Int) < (xs.length : Int)) = false := decide_eq_false (by omega)
  have d2 : decide (2000 < xs.length) = false := decide_eq_false h1
  by_cases h2 : 2000 < s.size
  · have d3 : decide ((2000 : Int) < (s.size : Int)) = true := decide_eq_true (by omega)
    have d4 : decide (2000 < s.size) = true := decide_eq_true h2
    go_enter Try.func3, Try.ntmps3
    go_wp2_with (go_at_call 5; (with_reducible refine (GA.out _).mono ?_); rintro e w1 ⟨rfl, hb1⟩)
    go_ret
    exact ⟨rfl, hb1⟩
  have d3 : decide ((2000 : Int) < (s.size : Int)) = false := decide_eq_false (by omega)
  have d4 : decide (2000 < s.size) = false := decide_eq_false h2
  have G1 := Lib.hid (hex_any A xs c w (by omega) ho hr)
  have G2 := Lib.hid (fun W (hW : Below w.heap.size w W) => rhex_any A xs c W (by omega) ho ((hr.below hW).more hW.size))
  obtain ⟨t, ht⟩ : ∃ t, strOfNums (hexL xs) = t := ⟨_, rfl⟩
  have htn : numsOf t = hexL xs := by rw [← ht]; exact nums_str (hexL_octets ho)
  have htz : t.size ≤ 4001 := by
    rw [← ht, strOfNums_size]
    unfold hexL
    split
    · simp
    · rw [flat_length]; omega
  have G3 := Lib.hid (fun W => unhex_any t W (by omega))
  have hu1 : unB (numsOf t) = true := by unfold unB; rw [htn, unhex_hex ho]; rfl
  have hu2 : unL (numsOf t) = xs := by unfold unL; rw [htn, unhex_hex ho]; rfl
  have HU1 := Lib.hid hu1
  have HU2 := Lib.hid hu2
  have G4 := Lib.hid (fun W => unhex_any s W (by omega))
  have G5 := Lib.hid (fun W => runhex_any s W (by omega))
  rw [ht] at G1 G2
  have HR := Lib.hid hr
  obtain ⟨U, hU⟩ : ∃ U, unL (numsOf s) = U := ⟨_, rfl⟩
  obtain ⟨V, hV⟩ : ∃ V, unB (numsOf s) = V := ⟨_, rfl⟩
  have HU := Lib.hid hU
  have HV := Lib.hid hV
  clear ht htn htz hu1 hu2 hU hV hr
  go_enter Try.func3, Try.ntmps3
  go_wp2_with fail
  refine G1.out.mono ?_
  rintro e w1 ⟨rfl, hb1⟩
  have HB1 := Lib.hid hb1
  clear hb1
  go_wp2_with fail
  refine (G3.out _).mono ?_
  rintro e w2 ⟨A2, c2, rfl, hh2, k2, hb2⟩
  rw [HU2.out] at hh2 k2
  rw [HU1.out, HU2.out]
  have HH2 := Lib.hid hh2
  have HB2 := Lib.hid (HB1.out.trans (hb2.mono HB1.out.size))
  clear hh2 hb2
  go_wp2_with fail
  refine (G4.out _).mono ?_
  rintro e w3 ⟨A3, c3, rfl, hh3, k3, hb3⟩
  rw [HU.out] at hh3 k3
  rw [HU.out, HV.out]
  have HH3 := Lib.hid hh3
  have HB3 := Lib.hid hb3
  have HB13 := Lib.hid (HB2.out.trans (hb3.mono HB2.out.size))
  clear hh3 hb3
  go_wp2_with fail
  refine (G5.out _).mono ?_
  rintro e w4 ⟨A4, c4, rfl, hh4, k4, hb4⟩
  rw [HU.out] at hh4 k4
  rw [HU.out, HV.out]
  have HH4 := Lib.hid hh4
  have HB4 := Lib.hid hb4
  have HB14 := Lib.hid (HB13.out.trans (hb4.mono HB13.out.size))
  have G26 := Lib.hid (G2.out _ HB14.out)
  clear hh4 hb4
  go_wp2_with (first
    | (go_at_call 9; refine G26.out.mono ?_; rintro e w5 ⟨rfl, hb5⟩
       have hb25 := HB3.out.trans ((HB4.out.trans (hb5.mono HB4.out.size)).mono HB3.out.size)
       have f2 := conv_bytes Try.underlying22 Try.underlying5 Try.underlying9 w5 A2 xs c2 _ (HH2.out.below hb25)
       have f3 := conv_bytes Try.underlying22 Try.underlying5 Try.underlying9 w5 A3 U c3 _ (HH3.out.below (HB4.out.trans (hb5.mono HB4.out.size)))
       have f4 := conv_bytes Try.underlying22 Try.underlying5 Try.underlying9 w5 A4 U c4 _ (HH4.out.below hb5)
       have f1 := conv_bytes Try.underlying22 Try.underlying5 Try.underlying9 w5 A xs c _ (HR.out.below (HB14.out.trans (hb5.mono HB14.out.size)))
       generalize strOfNums xs = sx at *
       generalize strOfNums U = su at *
       have HB15 := Lib.hid (HB14.out.trans (hb5.mono HB14.out.size))
       clear hb5 hb25)
    | (go_at_call 5; (with_reducible refine (GA.out _).mono ?_); rintro e w6 ⟨rfl, hb6⟩))
  go_ret
  exact ⟨rfl, HB15.out.trans (hb6.mono HB15.out.size)⟩
end Go.Proofs.Ytpdlibegjkbknaa.ScriptTexts
