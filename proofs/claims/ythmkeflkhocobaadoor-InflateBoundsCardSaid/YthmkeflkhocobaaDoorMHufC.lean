/-
  Layer 9, huff: how many codes there are of each length. Conditions: as each theorem names.
-/
import Derived.Test.YthmkeflkhocobaaDoorMHufZ
import Derived.Test.YthmkeflkhocobaaDoorMArr
import Derived.Laws.Rows
namespace Go.Proofs.YthmkeflkhocobaaDoor.Huf
open Go.ChangeShapes Go.WideShapes Go.ChangeAt Go.RowKit Go.Proofs.YthmkeflkhocobaaDoor.Kit Go.Proofs.YthmkeflkhocobaaDoor.Bits

/-- How many lengths are n. -/
def cnt : List Int → Int → Int
  | [], _ => 0
  | x :: l, n => (if x = n then 1 else 0) + cnt l n
/-- Of each length above 0. -/
def cnts (l : List Int) : List Int := (List.range 16).map fun (n : Nat) => if n = 0 then 0 else cnt l n

theorem cnt_append : ∀ (a b : List Int) (n : Int), cnt (a ++ b) n = cnt a n + cnt b n
  | [], b, n => by simp [cnt]
  | x :: a, b, n => by simp only [List.cons_append, cnt, cnt_append a b n]; omega
theorem cnt_bd : ∀ (l : List Int) (n : Int), 0 ≤ cnt l n ∧ cnt l n ≤ l.length
  | [], n => by simp [cnt]
  | x :: l, n => by
    have := cnt_bd l n
    simp only [cnt, List.length_cons]
    split <;> omega
theorem cnts_length (l : List Int) : (cnts l).length = 16 := by simp [cnts]
theorem cnts_get (l : List Int) (n : Nat) (h : n < 16) : (cnts l)[n]?.getD 0 = if n = 0 then 0 else cnt l n := by simp [cnts, h]
theorem cnts_snoc (l : List Int) (m : Nat) (h0 : 0 < m) (hm : m < 16) : cnts (l ++ [(m : Int)]) = (cnts l).set m (cnt l m + 1) := by
  apply List.ext_getElem?
  intro i
  by_cases hi : i < 16
  · rw [List.getElem?_set]
    by_cases him : m = i
    · subst him
      rw [if_pos rfl, if_pos (by rw [cnts_length]; exact hm)]
      simp [cnts, hm, cnt_append, cnt, show m ≠ 0 by omega]
    · rw [if_neg him]
      have : ((m : Int) = (i : Int)) = False := by simp; omega
      simp [cnts, hi, cnt_append, cnt, this]
  · rw [List.getElem?_eq_none (by rw [cnts_length]; omega), List.getElem?_eq_none (by rw [List.length_set, cnts_length]; omega)]
theorem cnts_skip (l : List Int) : cnts (l ++ [0]) = cnts l := by
  unfold cnts
  apply List.map_congr_left
  intro n _
  by_cases h : n = 0
  · simp [h]
  · have : ((0 : Int) = (n : Int)) = False := by simp; omega
    simp [h, cnt_append, cnt, this]

set_option maxHeartbeats 1600000 in
theorem counts_any (A : Option Addr) (l : List Int) (c : Nat) (w : World) (ho : Octets l) (h15 : ∀ n ∈ l, n ≤ 15) (hl : l.length ≤ 300) (hc : l.length ≤ c) (hm : c ≤ maxLen) (hr : Holds w w.heap.size .u8 A l) :
    Calls Tryd.prog 87 #[.slice A l.length c] w fun e w' => e = .returned (arrV .i64 (cnts l)) ∧ Below w.heap.size w w' := by
  unfold maxLen at hm
  have arr16 : Tryd.prog.underlying 141 = some (.array 16 3) := Tryd.underlying141
  have a1 : Arr (w.alloc (.cells #[.int .i64 0, .int .i64 0, .int .i64 0, .int .i64 0, .int .i64 0, .int .i64 0, .int .i64 0, .int .i64 0, .int .i64 0, .int .i64 0, .int .i64 0, .int .i64 0, .int .i64 0, .int .i64 0, .int .i64 0, .int .i64 0] 141)) w.heap.size 141 .i64 (cnts []) := Block.new w 141 #[.int .i64 0, .int .i64 0, .int .i64 0, .int .i64 0, .int .i64 0, .int .i64 0, .int .i64 0, .int .i64 0, .int .i64 0, .int .i64 0, .int .i64 0, .int .i64 0, .int .i64 0, .int .i64 0, .int .i64 0, .int .i64 0]
  have a2 : Arr ((w.alloc (.cells #[.int .i64 0, .int .i64 0, .int .i64 0, .int .i64 0, .int .i64 0, .int .i64 0, .int .i64 0, .int .i64 0, .int .i64 0, .int .i64 0, .int .i64 0, .int .i64 0, .int .i64 0, .int .i64 0, .int .i64 0, .int .i64 0] 141)).alloc (.cells #[.int .i64 0, .int .i64 0, .int .i64 0, .int .i64 0, .int .i64 0, .int .i64 0, .int .i64 0, .int .i64 0, .int .i64 0, .int .i64 0, .int .i64 0, .int .i64 0, .int .i64 0, .int .i64 0, .int .i64 0, .int .i64 0] 141)) (w.heap.size + 1) 141 .i64 (cnts []) := by
    have := Block.new (w.alloc (.cells #[.int .i64 0, .int .i64 0, .int .i64 0, .int .i64 0, .int .i64 0, .int .i64 0, .int .i64 0, .int .i64 0, .int .i64 0, .int .i64 0, .int .i64 0, .int .i64 0, .int .i64 0, .int .i64 0, .int .i64 0, .int .i64 0] 141)) 141 #[.int .i64 0, .int .i64 0, .int .i64 0, .int .i64 0, .int .i64 0, .int .i64 0, .int .i64 0, .int .i64 0, .int .i64 0, .int .i64 0, .int .i64 0, .int .i64 0, .int .i64 0, .int .i64 0, .int .i64 0, .int .i64 0]
    rw [show (w.alloc (.cells #[.int .i64 0, .int .i64 0, .int .i64 0, .int .i64 0, .int .i64 0, .int .i64 0, .int .i64 0, .int .i64 0, .int .i64 0, .int .i64 0, .int .i64 0, .int .i64 0, .int .i64 0, .int .i64 0, .int .i64 0, .int .i64 0] 141)).heap.size = w.heap.size + 1 by simp] at this
    exact this
  have a1' := a1.alloc (.cells #[.int .i64 0, .int .i64 0, .int .i64 0, .int .i64 0, .int .i64 0, .int .i64 0, .int .i64 0, .int .i64 0, .int .i64 0, .int .i64 0, .int .i64 0, .int .i64 0, .int .i64 0, .int .i64 0, .int .i64 0, .int .i64 0] 141)
  have b1 := ((Below.refl w.heap.size w).alloc (Nat.le_refl _) (.cells #[.int .i64 0, .int .i64 0, .int .i64 0, .int .i64 0, .int .i64 0, .int .i64 0, .int .i64 0, .int .i64 0, .int .i64 0, .int .i64 0, .int .i64 0, .int .i64 0, .int .i64 0, .int .i64 0, .int .i64 0, .int .i64 0] 141)).alloc (by simp) (.cells #[.int .i64 0, .int .i64 0, .int .i64 0, .int .i64 0, .int .i64 0, .int .i64 0, .int .i64 0, .int .i64 0, .int .i64 0, .int .i64 0, .int .i64 0, .int .i64 0, .int .i64 0, .int .i64 0, .int .i64 0, .int .i64 0] 141)
  go_enter Tryd.func87, Tryd.ntmps87
  go_wp2_with fail
  clear a1
  generalize (w.alloc (.cells #[.int .i64 0, .int .i64 0, .int .i64 0, .int .i64 0, .int .i64 0, .int .i64 0, .int .i64 0, .int .i64 0, .int .i64 0, .int .i64 0, .int .i64 0, .int .i64 0, .int .i64 0, .int .i64 0, .int .i64 0, .int .i64 0] 141)).alloc (.cells #[.int .i64 0, .int .i64 0, .int .i64 0, .int .i64 0, .int .i64 0, .int .i64 0, .int .i64 0, .int .i64 0, .int .i64 0, .int .i64 0, .int .i64 0, .int .i64 0, .int .i64 0, .int .i64 0, .int .i64 0, .int .i64 0] 141) = w2 at *
  go_loopw [8] (fun s wr => ∃ i : Nat, i ≤ l.length ∧ s = .int .i64 i ∧ Arr wr (w.heap.size + 1) 141 .i64 (cnts (l.take i)) ∧ Arr wr w.heap.size 141 .i64 (cnts []) ∧ Below w.heap.size w wr) (fun s _ => l.length - (intOf s).toNat)
  case atStart => exact ⟨0, Nat.zero_le _, rfl, a2, a1', b1⟩
  case round =>
    obtain ⟨i, hi, rfl, r2, r1, hb⟩ := hrel
    by_cases hlt : i < l.length
    · obtain ⟨bb, off, rfl, hbl, hcs⟩ := (hr.below hb) (by omega)
      have hci := hcs i hlt
      rw [show l.getD i 0 = l[i] by simp [List.getD, hlt]] at hci
      have hts := take_snoc l i hlt
      have hx := ho l[i] (List.getElem_mem hlt)
      have hx15 := h15 l[i] (List.getElem_mem hlt)
      have hcb := cnt_bd (l.take i) l[i]
      have htl : (l.take i).length ≤ 300 := by simp; omega
      have hcb2 : 0 ≤ cnt (l.take i) l[i] ∧ cnt (l.take i) l[i] ≤ 300 := by omega
      have Hts := Lib.hid hts
      clear hts hcs hcb
      generalize l[i] = x at *
      obtain ⟨m, rfl⟩ := Int.eq_ofNat_of_zero_le hx.1
      by_cases h0 : 0 < m
      · have hget := cnts_get (l.take i) m (by omega)
        rw [if_neg (by omega)] at hget
        have hcell := r2.cell (i := m) (by rw [cnts_length]; omega)
        rw [hget] at hcell
        have hfr := r2.frozen m
        have hset := cnts_snoc (l.take i) m h0 (by omega)
        have r3 := r2.set_ m (cnt (l.take i) (m : Int) + 1)
        have r13 := r1.far (p := ⟨w.heap.size + 1, m, none⟩) (by simp) (.int .i64 (cnt (l.take i) (m : Int) + 1))
        have hb3 := hb.setCell (p := ⟨w.heap.size + 1, m, none⟩) (by simp) (.int .i64 (cnt (l.take i) (m : Int) + 1))
        rw [← hset] at r3
        have d0 : decide ((0 : Int) < (m : Int)) = true := decide_eq_true (by omega)
        have dm : (m : Int) < 16 := by omega
        clear hget hset
        generalize cnt (l.take i) (m : Int) = C at *
        go_wp2_with fail
        go_roundw
        case rel => exact ⟨i + 1, by omega, by go_num, by rw [Hts.out]; exact r3, r13, hb3⟩
        case measure => simp [intOf] <;> omega
      · obtain rfl : m = 0 := by omega
        have hsk := cnts_skip (l.take i)
        have Hsk := Lib.hid hsk
        clear hsk
        simp only [Int.natCast_zero] at *
        go_wp2_with fail
        go_roundw
        case rel => exact ⟨i + 1, by omega, by go_num, by rw [Hts.out, Hsk.out]; exact r2, r1, hb⟩
        case measure => simp [intOf] <;> omega
    · obtain rfl : i = l.length := by omega
      rw [List.take_of_length_le (Nat.le_refl _)] at r2
      go_wp2_with (first
        | (refine wpList_load_arr rfl _ _ rfl r2 rfl arr16 rfl (by rw [cnts_length]; kernel_rfl) ?_)
        | (refine wpList_store_arr rfl _ _ _ rfl r1 rfl rfl (by rw [cnts_length, cnts_length]) (by rw [cnts_length]; kernel_rfl) ?_; intro w4 r4 g4))
      refine bodyPost_ret (v := arrV .i64 (cnts l)) (results_cell_row rfl _ _ w.heap.size 141 _ (0, 0) _ rfl r4 arr16 rfl (by rw [show ((cnts l).map (Value.int .i64)).toArray.size = 16 by simp [cnts_length]]; kernel_rfl)) rfl ⟨rfl, ?_⟩
      exact hb.trans (below_of_grown g4 hb.size fun g hg => by injection hg with hg; omega)
end Go.Proofs.YthmkeflkhocobaaDoor.Huf
