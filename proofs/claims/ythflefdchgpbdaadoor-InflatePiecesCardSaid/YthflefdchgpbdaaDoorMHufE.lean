/-
  Layer 9, huff: the document's codes. Conditions: as each theorem names.
-/
import Derived.Test.YthflefdchgpbdaaDoorMGIces8
namespace Go.Proofs.YthflefdchgpbdaaDoor.Huf
open Go.ChangeShapes Go.WideShapes Go.ChangeAt Go.RowKit Go.Proofs.YthflefdchgpbdaaDoor.Kit Go.Proofs.YthflefdchgpbdaaDoor.Bits

set_option maxHeartbeats 1600000 in
theorem many_any (A : Option Addr) (l : List Int) (c : Nat) (n : Int) (w : World) (ho : Octets l) (hl : l.length ≤ 300) (hr : Holds w w.heap.size .u8 A l) :
    Calls Tryd.prog 57 #[.slice A l.length c, .int .i64 n] w fun e w' => e = .returned (.int .i64 (cnt l n)) ∧ w = w' := by
  go_enter Tryd.func57, Tryd.ntmps57
  go_wp2_with fail
  go_loop [5, 9] (fun k s => ∃ i : Nat, i ≤ l.length ∧ s = .int .i64 i ∧ k = .int .i64 (cnt (l.take i) n)) (fun _ s => l.length - (intOf s).toNat)
  case atStart => exact ⟨0, Nat.zero_le _, rfl, rfl⟩
  case round =>
    obtain ⟨i, hi, rfl, rfl⟩ := hrel
    have hcb := cnt_bd (l.take i) n
    have htl : (l.take i).length ≤ 300 := by simp; omega
    have hcb2 : 0 ≤ cnt (l.take i) n ∧ cnt (l.take i) n ≤ 300 := by omega
    by_cases hlt : i < l.length
    · obtain ⟨bb, off, rfl, hbl, hcs⟩ := hr (by omega)
      have hci := hcs i hlt
      rw [show l.getD i 0 = l[i] by simp [List.getD, hlt]] at hci
      have hx := ho l[i] (List.getElem_mem hlt)
      have hs := cnt_append (l.take i) [l[i]] n
      rw [← take_snoc l i hlt] at hs
      simp only [cnt, Int.add_zero] at hs
      clear hcs hcb
      generalize l[i] = x at *
      generalize cnt (l.take i) n = C at *
      by_cases hxn : x = n
      · subst hxn
        rw [if_pos rfl] at hs
        have Hs := Lib.hid hs
        clear hs
        go_wp2_with fail
        go_round
        case rel => exact ⟨i + 1, by omega, by go_num, by rw [Hs.out]⟩
        case measure => simp [intOf] <;> omega
      · rw [if_neg hxn, Int.add_zero] at hs
        have Hs := Lib.hid hs
        have hne : (x == n) = false := by rw [beq_eq_false_iff_ne]; exact hxn
        clear hs hxn
        go_wp2_with fail
        go_round
        case rel => exact ⟨i + 1, by omega, by go_num, by rw [Hs.out]⟩
        case measure => simp [intOf] <;> omega
    · obtain rfl : i = l.length := by omega
      rw [List.take_of_length_le (Nat.le_refl _)] at *
      go_wp2_with fail
      go_ret
      exact ⟨rfl, rfl⟩

/-- The codes of what is shorter than n, and of the first i symbols of n bits. -/
def upTo (l : List Int) (n i : Nat) : List Int := (List.range l.length).map fun j => if l.getD j 0 < n ∨ (l.getD j 0 = n ∧ j < i) then code l j else 0
theorem upTo_length (l : List Int) (n i : Nat) : (upTo l n i).length = l.length := by simp [upTo]
theorem upTo_start (l : List Int) (ho : Octets l) : upTo l 1 0 = List.replicate l.length 0 := by
  apply List.ext_getElem
  · simp [upTo]
  · intro i h1 h2
    have hi : i < l.length := by simpa [upTo] using h1
    have hx := ho l[i] (List.getElem_mem hi)
    have hg : l.getD i 0 = l[i] := by simp [List.getD, hi]
    simp only [upTo, List.getElem_map, List.getElem_range, List.getElem_replicate, hg]
    by_cases h0 : l[i] = 0
    · have : code l i = 0 := by unfold code; rw [hg, h0]; simp
      simp [this]
    · rw [if_neg (by omega)]
theorem upTo_row (l : List Int) (n : Nat) : upTo l n l.length = upTo l (n + 1) 0 := by
  unfold upTo
  apply List.map_congr_left
  intro j hj
  have hj := List.mem_range.1 hj
  by_cases h1 : l.getD j 0 < n
  · rw [if_pos (.inl h1), if_pos (.inl (by omega))]
  · by_cases h2 : l.getD j 0 = n
    · rw [if_pos (.inr ⟨h2, hj⟩), if_pos (.inl (by omega))]
    · rw [if_neg (by omega), if_neg (by omega)]
theorem upTo_end (l : List Int) (h15 : ∀ n ∈ l, n ≤ 15) : upTo l 16 0 = codes l := by
  unfold upTo codes
  apply List.map_congr_left
  intro j hj
  have hj := List.mem_range.1 hj
  have hg : l.getD j 0 = l[j] := by simp [List.getD, hj]
  have := h15 l[j] (List.getElem_mem hj)
  rw [if_pos (.inl (by omega))]
theorem upTo_next (l : List Int) (n i : Nat) (h : i < l.length) (hn : l.getD i 0 = n) : upTo l n (i + 1) = (upTo l n i).set i (code l i) := by
  apply List.ext_getElem?
  intro j
  by_cases hj : j < l.length
  · rw [List.getElem?_set]
    by_cases hij : i = j
    · subst hij
      rw [if_pos rfl, if_pos (by rw [upTo_length]; exact hj)]
      simp only [upTo, List.getElem?_map, List.getElem?_range hj, Option.map_some]
      rw [if_pos (.inr ⟨hn, by omega⟩)]
    · rw [if_neg hij]
      simp only [upTo, List.getElem?_map, List.getElem?_range hj, Option.map_some]
      congr 1
      by_cases h1 : l.getD j 0 < n ∨ l.getD j 0 = n ∧ j < i
      · rw [if_pos h1, if_pos (by omega)]
      · rw [if_neg h1, if_neg (by omega)]
  · rw [List.getElem?_eq_none (by rw [upTo_length]; omega), List.getElem?_eq_none (by rw [List.length_set, upTo_length]; omega)]
theorem upTo_skip (l : List Int) (n i : Nat) (hn : l.getD i 0 ≠ n) : upTo l n (i + 1) = upTo l n i := by
  unfold upTo
  apply List.map_congr_left
  intro j _
  by_cases h1 : l.getD j 0 < n ∨ l.getD j 0 = n ∧ j < i
  · rw [if_pos h1, if_pos (by omega)]
  · rw [if_neg h1, if_neg (by
      rintro (h | ⟨h, hj⟩)
      · exact h1 (.inl h)
      · by_cases hji : j = i
        · subst hji; exact hn h
        · exact h1 (.inr ⟨h, by omega⟩))]

/-- What the document's Codes gives. -/
def GivesCodes (l : List Int) (w : World) (e : Ending) (w' : World) : Prop := ∃ v, e = .returned v ∧ Own w' w.heap.size 100 .u16 v (codes l) ∧ Below w.heap.size w w'

set_option maxHeartbeats 3200000 in
theorem rcodes_any (A : Option Addr) (l : List Int) (c : Nat) (w : World) (ho : Octets l) (hl : l.length ≤ 300) (h15 : ∀ n ∈ l, n ≤ 15) (hr : Holds w w.heap.size .u8 A l) :
    Calls Tryd.prog 42 #[.slice A l.length c] w (GivesCodes l w) := by
  have hst := upTo_start l ho
  have Hst := Lib.hid hst
  clear hst
  go_enter Tryd.func42, Tryd.ntmps42
  go_wp2_with (at_make; refine wpList_make_ints _ rfl _ _ _ rfl elem16 l.length l.length rfl rfl rfl rfl (Nat.le_refl _) (by omega) ?_; intro w1 own1 b1 s1)
  rw [← Hst.out] at own1
  go_loopw [4, 5] (fun f s wr => ∃ n : Nat, 1 ≤ n ∧ n ≤ 16 ∧ s = .int .i64 n ∧ f = .int .i64 (fc l (n - 1)) ∧ Own wr w.heap.size 100 .u16 (.slice (some ⟨w.heap.size, 0, none⟩) l.length l.length) (upTo l n 0) ∧ Below w.heap.size w wr) (fun _ s _ => 16 - (intOf s).toNat)
  case atStart => exact ⟨1, by omega, by omega, rfl, rfl, own1, b1⟩
  case round =>
    obtain ⟨n, hn1, hn16, rfl, rfl, own, hb⟩ := hrel
    have hrb := hr.below hb
    by_cases hn : n < 16
    · have d0 : decide ((n : Int) ≤ 15) = true := decide_eq_true (by omega)
      have hcn := cnt_bd l ((n - 1 : Nat) : Int)
      have hfp := fc_15 l hl (n - 1) (by omega)
      have hfc := fc_15 l hl n (by omega)
      have hF : Hid (∃ F, fc l n = F) := Lib.hid ⟨_, rfl⟩
      have hcodeF : ∀ i (hi : i < l.length), l[i] = (n : Int) → code l i = IntKind.u16.wrap (fc l n + cnt (l.take i) (n : Int)) := by
        intro i hi he
        unfold code
        rw [show l.getD i 0 = (n : Int) by simp [List.getD, hi, he], if_pos (by omega), Int.toNat_natCast, IntKind.wrap_u16]
      have hcn2 : 0 ≤ cnt l ((n - 1 : Nat) : Int) ∧ cnt l ((n - 1 : Nat) : Int) ≤ 300 := by omega
      have HcodeF := Lib.hid hcodeF
      clear hcn hcodeF
      by_cases hn2 : n = 1
      case' pos =>
        have d1 : decide ((1 : Int) < (n : Int)) = false := decide_eq_false (by omega)
        rw [show fc l (n - 1) = fc l n by subst hn2; rfl]
        clear hn2
        generalize hFF : fc l n = F at *
        have HFF := Lib.hid hFF
        clear hFF hfp
        go_wp2_with fail
      case' neg =>
        have d1 : decide ((1 : Int) < (n : Int)) = true := decide_eq_true (by omega)
        have hval : fc l n = 2 * (fc l (n - 1) + cnt l ((n - 1 : Nat) : Int)) := by
          obtain ⟨k, rfl⟩ : ∃ k, n = k + 1 := ⟨n - 1, by omega⟩
          rw [fc, if_neg (by omega)]
          rfl
        have G := Lib.hid (many_any A l c ((n - 1 : Nat) : Int) wr ho hl (hrb.more hb.size))
        have e1 : (n : Int) - 1 = ((n - 1 : Nat) : Int) := by omega
        have E1 := Lib.hid e1
        have Hval := Lib.hid hval
        clear hval e1
        generalize fc l (n - 1) = P at *
        generalize cnt l ((n - 1 : Nat) : Int) = C at *
        go_wp2_with (go_at_call 57; rw [E1.out]; refine G.out.mono ?_; rintro e w2 ⟨rfl, rfl⟩)
        rw [← Hval.out]
        generalize hFF : fc l n = F at *
        have HFF := Lib.hid hFF
        clear hFF hfp
      all_goals
        go_loopw [6, 27] (fun x s wq => ∃ i : Nat, i ≤ l.length ∧ s = .int .i64 i ∧ x = .int .i64 (F + cnt (l.take i) (n : Int)) ∧ Own wq w.heap.size 100 .u16 (.slice (some ⟨w.heap.size, 0, none⟩) l.length l.length) (upTo l n i) ∧ Below w.heap.size w wq) (fun _ s _ => l.length - (intOf s).toNat)
        case atStart => exact ⟨0, Nat.zero_le _, rfl, congrArg _ (by simp [cnt]), own, hb⟩
        case round =>
          obtain ⟨i, hi, rfl, rfl, own2, hb2⟩ := hrel
          have hcb := cnt_bd (l.take i) (n : Int)
          have htl : (l.take i).length ≤ 300 := by simp; omega
          have hcb2 : 0 ≤ cnt (l.take i) (n : Int) ∧ cnt (l.take i) (n : Int) ≤ 300 := by omega
          clear hcb
          by_cases hlt : i < l.length
          · obtain ⟨bb, off, rfl, hbl, hcs⟩ := (hr.below hb2) (by omega)
            have hci := hcs i hlt
            have hg : l.getD i 0 = l[i] := by simp [List.getD, hlt]
            rw [hg] at hci
            have hx := ho l[i] (List.getElem_mem hlt)
            have hs := cnt_append (l.take i) [l[i]] (n : Int)
            rw [← take_snoc l i hlt] at hs
            simp only [cnt, Int.add_zero] at hs
            have hnext := upTo_next l n i hlt
            have hskip := upTo_skip l n i
            rw [hg] at hnext hskip
            have hcd := HcodeF.out i hlt
            have hul := upTo_length l n i
            have hil : (i : Int) < (l.length : Int) := by omega
            clear hcs hg
            generalize l[i] = x at *
            by_cases hxn : x = (n : Int)
            · subst hxn
              rw [if_pos rfl] at hs
              have hs2 : F + cnt (l.take (i + 1)) (n : Int) = F + cnt (l.take i) (n : Int) + 1 := by omega
              rw [hcd rfl] at hnext
              have hF2 : 0 ≤ F + cnt (l.take i) (n : Int) ∧ F + cnt (l.take i) (n : Int) ≤ 19660500 := by omega
              generalize F + cnt (l.take i) (n : Int) = X at *
              obtain ⟨o1, g1⟩ := own2.stored hul.symm i (IntKind.u16.wrap X)
              rw [← hnext rfl] at o1
              have hfrz := own2.frozenAt hul.symm i
              have hci2 := own2.cellAt hul.symm (i := i) (by rw [hul]; exact hlt)
              have hb3 := hb2.trans (below_of_grown g1 hb2.size fun g hg => by injection hg with hg; omega)
              have Hs2 := Lib.hid hs2
              clear hs hs2 hcd hnext hskip own2 g1
              go_wp2_with fail
              go_roundw
              case rel => exact ⟨i + 1, by omega, by go_num, by rw [Hs2.out], o1, hb3⟩
              case measure => simp [intOf] <;> omega
            · rw [if_neg hxn, Int.add_zero] at hs
              rw [← hskip hxn] at own2
              have Hs := Lib.hid hs
              have hne : (x == (n : Int)) = false := by rw [beq_eq_false_iff_ne]; exact hxn
              clear hs hxn hskip hnext hcd
              generalize cnt (l.take i) (n : Int) = X at *
              go_wp2_with fail
              go_roundw
              case rel => exact ⟨i + 1, by omega, by go_num, by rw [Hs.out], own2, hb2⟩
              case measure => simp [intOf] <;> omega
          · obtain rfl : i = l.length := by omega
            rw [upTo_row] at own2
            go_wp2_with fail
            go_roundw
            case rel => exact ⟨n + 1, by omega, by omega, by go_num, by rw [Nat.add_sub_cancel, HFF.out], own2, hb2⟩
            case measure => simp [intOf] <;> omega
    · obtain rfl : n = 16 := by omega
      rw [upTo_end l h15] at own
      have d0 : decide (((16 : Nat) : Int) ≤ 15) = false := decide_eq_false (by omega)
      go_wp2_with fail
      go_ret
      exact ⟨_, rfl, own, hb⟩
end Go.Proofs.YthflefdchgpbdaaDoor.Huf
