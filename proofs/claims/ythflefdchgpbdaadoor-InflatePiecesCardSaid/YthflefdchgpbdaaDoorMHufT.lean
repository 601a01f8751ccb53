/-
  Layer 9, huff: New. Conditions: as each theorem names.
-/
import Derived.Test.YthflefdchgpbdaaDoorMGIces8
import Derived.Test.YthflefdchgpbdaaDoorMGIces0
namespace Go.Proofs.YthflefdchgpbdaaDoor.Huf
open Go.ChangeShapes Go.WideShapes Go.ChangeAt Go.RowKit Go.Proofs.YthflefdchgpbdaaDoor.Kit Go.Proofs.YthflefdchgpbdaaDoor.Bits

/-- The symbols of n bits among the first i, in their order. -/
def idx (l : List Int) (n : Int) (i : Nat) : List Int := ((List.range i).filter fun j => decide (l.getD j 0 = n)).map fun (j : Nat) => (j : Int)
/-- The symbols of at most n bits, the shortest first. -/
def syms (l : List Int) : Nat → List Int
  | 0 => []
  | n + 1 => syms l n ++ idx l ((n + 1 : Nat) : Int) l.length
/-- The greatest length up to n. -/
def mostOf (l : List Int) : Nat → Int
  | 0 => 0
  | n + 1 => if cnt l ((n + 1 : Nat) : Int) = 0 then mostOf l n else ((n + 1 : Nat) : Int)

theorem idx_next (l : List Int) (n : Int) (i : Nat) : idx l n (i + 1) = if l.getD i 0 = n then idx l n i ++ [(i : Int)] else idx l n i := by
  unfold idx
  rw [List.range_succ, List.filter_append, List.map_append]
  by_cases h : l.getD i 0 = n
  · rw [if_pos h]
    simp only [List.filter_cons, List.filter_nil, h, decide_true, if_true]
    rfl
  · rw [if_neg h]
    simp only [List.filter_cons, List.filter_nil, h, decide_false, Bool.false_eq_true, if_false, List.map_nil, List.append_nil]
theorem idx_length (l : List Int) (n : Int) : ∀ i, i ≤ l.length → ((idx l n i).length : Int) = cnt (l.take i) n
  | 0, _ => by simp [idx, cnt]
  | i + 1, h => by
    have ih := idx_length l n i (by omega)
    have hs := cnt_append (l.take i) [l[i]] n
    rw [← take_snoc l i (by omega)] at hs
    simp only [cnt, Int.add_zero] at hs
    have hg : l.getD i 0 = l[i] := by simp [List.getD, show i < l.length by omega]
    rw [idx_next, hg, hs]
    by_cases hn : l[i] = n
    · rw [if_pos hn, if_pos hn, List.length_append]
      simp
      omega
    · rw [if_neg hn, if_neg hn]
      omega
theorem idx_le (l : List Int) (n : Int) (i : Nat) : (idx l n i).length ≤ i := by
  unfold idx
  rw [List.length_map]
  have := List.length_filter_le (fun j => decide (l.getD j 0 = n)) (List.range i)
  simpa using this
theorem syms_length (l : List Int) : ∀ n, (syms l n).length ≤ l.length * n
  | 0 => by simp [syms]
  | n + 1 => by
    have h1 := syms_length l n
    have h2 := idx_le l ((n + 1 : Nat) : Int) l.length
    rw [syms, List.length_append, Nat.mul_succ]
    omega
theorem idx_none {l : List Int} {n : Int} (h : cnt l n = 0) : idx l n l.length = [] := by
  have := idx_length l n l.length (Nat.le_refl _)
  rw [List.take_of_length_le (Nat.le_refl _), h] at this
  exact List.eq_nil_of_length_eq_zero (by omega)

/-- A table's cells. -/
def tcells (cs : List Int) (most : Int) (v : Value) : Array Value := (cs.map (Value.int .i64) ++ [.int .i64 most, v]).toArray

theorem tcells_set16 {cs : List Int} (hc : cs.length = 16) (most z : Int) (v : Value) : (tcells cs most v).setIfInBounds 16 (.int .i64 z) = tcells cs z v := by
  unfold tcells
  rw [List.setIfInBounds_toArray, List.set_append_right _ _ (by simp [hc])]
  simp [hc]
theorem tcells_set17 {cs : List Int} (hc : cs.length = 16) (most : Int) (v u : Value) : (tcells cs most v).setIfInBounds 17 u = tcells cs most u := by
  unfold tcells
  rw [List.setIfInBounds_toArray, List.set_append_right _ _ (by simp [hc])]
  simp [hc]
theorem tcells_get {cs : List Int} (hc : cs.length = 16) (most : Int) (v : Value) (n : Nat) (h : n < 16) : (tcells cs most v)[n]? = some (.int .i64 (cs[n]?.getD 0)) := by
  unfold tcells
  rw [List.getElem?_toArray, List.getElem?_append_left (by simp [hc, h])]
  simp [hc, h]
theorem tcells_16 {cs : List Int} (hc : cs.length = 16) (most : Int) (v : Value) : (tcells cs most v)[16]? = some (.int .i64 most) := by
  unfold tcells
  rw [List.getElem?_toArray, List.getElem?_append_right (by simp [hc])]
  simp [hc]
theorem tcells_17 {cs : List Int} (hc : cs.length = 16) (most : Int) (v : Value) : (tcells cs most v)[17]? = some v := by
  unfold tcells
  rw [List.getElem?_toArray, List.getElem?_append_right (by simp [hc])]
  simp [hc]

/-- The table at block g reads these lengths' codes; its symbols are the row v. -/
structure Tb (w : World) (B g : Nat) (v : Value) (l : List Int) (n : Nat) (ss : List Int) : Prop where
  blk : Block w g 108 (tcells (cnts l) (mostOf l n) v)
  own : Own w B 100 .u16 v ss

theorem new_no (A : Option Addr) (l : List Int) (c : Nat) (w : World) (ho : Octets l) (hc : l.length ≤ c) (hm : c ≤ maxLen) (hr : Holds w w.heap.size .u8 A l) (h : mayB l = false) :
    Calls Tryd.prog 50 #[.slice A l.length c] w fun e w' => e = .returned (.tuple #[.pointer none, .int .i64 3]) ∧ w = w' := by
  have g := may_any A l c w ho hc hm hr
  rw [h] at g
  have G := Lib.hid g
  clear g h
  go_enter Tryd.func50, Tryd.ntmps50
  go_wp2_with (go_at_call 60; refine G.out.mono ?_; rintro e w1 ⟨rfl, rfl⟩)
  go_ret2
  exact ⟨rfl, rfl⟩

/-- What New leaves. -/
def NewOk (l : List Int) (w : World) (e : Ending) (w' : World) : Prop := ∃ g v, e = .returned (.tuple #[.pointer (some ⟨g, 0, none⟩), .int .i64 0]) ∧ w.heap.size ≤ g ∧ Tb w' w.heap.size g v l 15 (syms l 15) ∧ Below w.heap.size w w'

theorem cnts_lit (l : List Int) : arrV .i64 (cnts l) = .agg #[.int .i64 0, .int .i64 (cnt l 1), .int .i64 (cnt l 2), .int .i64 (cnt l 3), .int .i64 (cnt l 4), .int .i64 (cnt l 5), .int .i64 (cnt l 6), .int .i64 (cnt l 7), .int .i64 (cnt l 8), .int .i64 (cnt l 9), .int .i64 (cnt l 10), .int .i64 (cnt l 11), .int .i64 (cnt l 12), .int .i64 (cnt l 13), .int .i64 (cnt l 14), .int .i64 (cnt l 15)] := rfl

set_option maxHeartbeats 6400000 in
theorem new_yes (A : Option Addr) (l : List Int) (c : Nat) (w : World) (ho : Octets l) (hc : l.length ≤ c) (hm : c ≤ maxLen) (hr : Holds w w.heap.size .u8 A l) (h : mayB l = true) :
    Calls Tryd.prog 50 #[.slice A l.length c] w (NewOk l w) := by
  obtain ⟨hl, h15⟩ := may_yes h
  have g := may_any A l c w ho hc hm hr
  rw [h] at g
  have G := Lib.hid g
  have g2 := counts_any A l c w ho h15 hl hc hm hr
  rw [cnts_lit] at g2
  have G2 := Lib.hid g2
  clear g g2 h
  unfold maxLen at hm
  go_enter Tryd.func50, Tryd.ntmps50
  go_wp2_with (first
    | (go_at_call 60; refine G.out.mono ?_; rintro e w1 ⟨rfl, rfl⟩)
    | (go_at_call 62; refine G2.out.mono ?_; rintro e w1 ⟨rfl, b1⟩))
  have tb0 : Block (w1.alloc (.cells #[.int .i64 0, .int .i64 (cnt l 1), .int .i64 (cnt l 2), .int .i64 (cnt l 3), .int .i64 (cnt l 4), .int .i64 (cnt l 5), .int .i64 (cnt l 6), .int .i64 (cnt l 7), .int .i64 (cnt l 8), .int .i64 (cnt l 9), .int .i64 (cnt l 10), .int .i64 (cnt l 11), .int .i64 (cnt l 12), .int .i64 (cnt l 13), .int .i64 (cnt l 14), .int .i64 (cnt l 15), .int .i64 0, .slice none 0 0] 108)) w1.heap.size 108 (tcells (cnts l) (mostOf l 0) (.slice none 0 0)) := Block.new w1 108 #[.int .i64 0, .int .i64 (cnt l 1), .int .i64 (cnt l 2), .int .i64 (cnt l 3), .int .i64 (cnt l 4), .int .i64 (cnt l 5), .int .i64 (cnt l 6), .int .i64 (cnt l 7), .int .i64 (cnt l 8), .int .i64 (cnt l 9), .int .i64 (cnt l 10), .int .i64 (cnt l 11), .int .i64 (cnt l 12), .int .i64 (cnt l 13), .int .i64 (cnt l 14), .int .i64 (cnt l 15), .int .i64 0, .slice none 0 0]
  have b2 := b1.alloc b1.size (.cells #[.int .i64 0, .int .i64 (cnt l 1), .int .i64 (cnt l 2), .int .i64 (cnt l 3), .int .i64 (cnt l 4), .int .i64 (cnt l 5), .int .i64 (cnt l 6), .int .i64 (cnt l 7), .int .i64 (cnt l 8), .int .i64 (cnt l 9), .int .i64 (cnt l 10), .int .i64 (cnt l 11), .int .i64 (cnt l 12), .int .i64 (cnt l 13), .int .i64 (cnt l 14), .int .i64 (cnt l 15), .int .i64 0, .slice none 0 0] 108)
  have s1 := b1.size
  generalize w1.alloc (.cells #[.int .i64 0, .int .i64 (cnt l 1), .int .i64 (cnt l 2), .int .i64 (cnt l 3), .int .i64 (cnt l 4), .int .i64 (cnt l 5), .int .i64 (cnt l 6), .int .i64 (cnt l 7), .int .i64 (cnt l 8), .int .i64 (cnt l 9), .int .i64 (cnt l 10), .int .i64 (cnt l 11), .int .i64 (cnt l 12), .int .i64 (cnt l 13), .int .i64 (cnt l 14), .int .i64 (cnt l 15), .int .i64 0, .slice none 0 0] 108) = w2 at *
  have hgw : w.heap.size ≤ w1.heap.size := s1
  generalize w1.heap.size = g at *
  have cl := cnts_length l
  have Hcl := Lib.hid cl
  clear cl
  go_loopw [5] (fun s wr => ∃ (n : Nat) (v : Value), 1 ≤ n ∧ n ≤ 16 ∧ s = .int .i64 (n : Int) ∧ Tb wr w.heap.size g v l (n - 1) (syms l (n - 1)) ∧ Below w.heap.size w wr) (fun s _ => 17 - (intOf s).toNat)
  case atStart => exact ⟨1, _, by omega, by omega, rfl, ⟨tb0, Own.nil _ _ _ _⟩, b2⟩
  case round =>
    obtain ⟨n, v, hn1, hn16, rfl, tb, hb⟩ := hrel
    have hsl := syms_length l (n - 1)
    have hsl2 : (syms l (n - 1)).length ≤ 4500 := Nat.le_trans hsl (Nat.le_trans (Nat.mul_le_mul hl (by omega : n - 1 ≤ 15)) (by omega))
    by_cases hn : n < 16
    · have d0 : decide ((n : Int) ≤ 15) = true := decide_eq_true (by omega)
      have cn : wr.cell? ⟨g, n, none⟩ = some (.int .i64 (cnt l (n : Int))) := by
        rw [tb.blk.cell, tcells_get Hcl.out _ _ _ (by omega), cnts_get l n (by omega), if_neg (by omega)]
      have c16 : wr.cell? ⟨g, 16, none⟩ = some (.int .i64 (mostOf l (n - 1))) := by rw [tb.blk.cell, tcells_16 Hcl.out]
      have hfr := tb.blk.frozen 16
      have dn : (n : Int) < 16 := by omega
      have hmo : mostOf l n = if cnt l (n : Int) = 0 then mostOf l (n - 1) else (n : Int) := by
        obtain ⟨k, rfl⟩ : ∃ k, n = k + 1 := ⟨n - 1, by omega⟩
        rfl
      have hsy : syms l n = syms l (n - 1) ++ idx l (n : Int) l.length := by
        obtain ⟨k, rfl⟩ : ∃ k, n = k + 1 := ⟨n - 1, by omega⟩
        rfl
      by_cases hc0 : cnt l (n : Int) = 0
      · rw [if_pos hc0] at hmo
        rw [idx_none hc0, List.append_nil] at hsy
        rw [hc0] at cn
        have tb' : Tb wr w.heap.size g v l n (syms l n) := ⟨by rw [hmo]; exact tb.blk, by rw [hsy]; exact tb.own⟩
        clear hmo hsy hc0 tb hsl
        go_wp2_with fail
        go_roundw
        case rel => exact ⟨n + 1, v, by omega, by omega, by go_num, tb', hb⟩
        case measure => simp [intOf] <;> omega
      · rw [if_neg hc0] at hmo
        have hne : (cnt l (n : Int) == 0) = false := by rw [beq_eq_false_iff_ne]; exact hc0
        have Hmo := Lib.hid hmo
        have Hsy := Lib.hid hsy
        have bS : Block (wr.setCell ⟨g, 16, none⟩ (.int .i64 (n : Int))) g 108 (tcells (cnts l) (mostOf l n) v) := by
          rw [Hmo.out, ← tcells_set16 Hcl.out (mostOf l (n - 1))]
          exact tb.blk.set_ 16 _
        have tS := (TurnsIn.refl (· = g) wr).setCell (p := ⟨g, 16, none⟩) (.inl rfl) (.int .i64 (n : Int))
        have oS := tb.own.out tS (fun b hb he => tb.own.ne_block tb.blk (by decide) (he ▸ hb))
        have hbS := hb.setCell (p := ⟨g, 16, none⟩) hgw (.int .i64 (n : Int))
        have hcl := idx_length l (n : Int) l.length (Nat.le_refl _)
        have hx16 := fun i => idx_le l (n : Int) i
        have hnx := fun i => idx_next l (n : Int) i
        have Hnx := Lib.hid hnx
        have Hx16 := Lib.hid hx16
        clear hmo hsy hc0 tb hsl hcl hnx hx16 tS
        generalize cnt l (n : Int) = C at *
        have d1 : decide (C = 0) = false := by simpa using hne
        go_wp2_with fail
        go_loopw [32] (fun s wq => ∃ (i : Nat) (v' : Value), i ≤ l.length ∧ s = .int .i64 i ∧ Tb wq w.heap.size g v' l n (syms l (n - 1) ++ idx l (n : Int) i) ∧ Below w.heap.size w wq) (fun s _ => l.length - (intOf s).toNat)
        case atStart => exact ⟨0, v, Nat.zero_le _, rfl, ⟨bS, by simpa [idx] using oS⟩, hbS⟩
        case round =>
          obtain ⟨i, v', hi, rfl, tb, hb2⟩ := hrel
          by_cases hlt : i < l.length
          · obtain ⟨bb, off, rfl, hbl, hcs⟩ := (hr.below hb2) (by omega)
            have hci := hcs i hlt
            have hx := ho l[i] (List.getElem_mem hlt)
            have hg2 : l.getD i 0 = l[i] := by simp [List.getD, hlt]
            have hnx := Hnx.out i
            have hxl := Hx16.out i
            rw [hg2] at hci hnx
            clear hcs hg2
            generalize l[i] = x at *
            by_cases hxn : x = (n : Int)
            · subst hxn
              rw [if_pos rfl] at hnx
              have Hnx2 := Lib.hid hnx
              have hfr2 := tb.blk.frozen 17
              have c17 : wr.cell? ⟨g, 17, none⟩ = some v' := by rw [tb.blk.cell, tcells_17 Hcl.out]
              have hwr : IntKind.u16.wrap (i : Int) = (i : Int) := by rw [IntKind.wrap_u16]; omega
              have htl : (syms l (n - 1) ++ idx l (n : Int) i).length ≤ 4800 := by rw [List.length_append]; omega
              have hs2 := hb2.size
              have own2 := tb.own
              clear hnx hxl
              generalize hsq : syms l (n - 1) ++ idx l (n : Int) i = q at *
              have Hsq := Lib.hid hsq
              clear hsq
              go_wp2_with (at_builtin; refine wpList_append_one (z := (i : Int)) _ rfl _ _ _ rfl elem16 own2 rfl rfl (by omega) hs2 ?_; intro v4 w4 own4 hg4 hb4; have b4 := (tb.blk.alloc _).grown hg4 (own2.ne_block tb.blk (by decide)); have f4 := b4.frozen 17; have c4 : w4.cell? ⟨g, 17, none⟩ = some v' := (by rw [b4.cell, tcells_17 Hcl.out]); obtain ⟨A4, k4, rfl, _, _, _⟩ := own4.opened)
              have b5 := b4.set_ 17 (.slice A4 (q ++ [(i : Int)]).length k4)
              rw [tcells_set17 Hcl.out] at b5
              have t5 := (TurnsIn.refl (· = g) w4).setCell (p := ⟨g, 17, none⟩) (.inl rfl) (.slice A4 (q ++ [(i : Int)]).length k4)
              have o5 := own4.out t5 (fun b hb he => own4.ne_block b4 (by decide) (he ▸ hb))
              have hb5 := (hb2.trans hb4).setCell (p := ⟨g, 17, none⟩) hgw (.slice A4 (q ++ [(i : Int)]).length k4)
              rw [List.length_append] at b5 o5 hb5
              go_roundw
              case rel => exact ⟨i + 1, .slice A4 (q.length + [(i : Int)].length) k4, by omega, by go_num, ⟨b5, by rw [Hnx2.out, ← List.append_assoc, Hsq.out]; exact o5⟩, hb5⟩
              case measure => simp [intOf] <;> omega
            · rw [if_neg hxn] at hnx
              have hne2 : (x == (n : Int)) = false := by rw [beq_eq_false_iff_ne]; exact hxn
              rw [← hnx] at tb
              clear hnx hxn hxl
              go_wp2_with fail
              go_roundw
              case rel => exact ⟨i + 1, v', by omega, by go_num, tb, hb2⟩
              case measure => simp [intOf] <;> omega
          · obtain rfl : i = l.length := by omega
            rw [← Hsy.out] at tb
            go_wp2_with fail
            go_roundw
            case rel => exact ⟨n + 1, v', by omega, by omega, by go_num, tb, hb2⟩
            case measure => simp [intOf] <;> omega
    · obtain rfl : n = 16 := by omega
      have d0 : decide (((16 : Nat) : Int) ≤ 15) = false := decide_eq_false (by omega)
      go_wp2_with fail
      go_ret2
      exact ⟨g, v, rfl, hgw, tb, hb⟩
end Go.Proofs.YthflefdchgpbdaaDoor.Huf
