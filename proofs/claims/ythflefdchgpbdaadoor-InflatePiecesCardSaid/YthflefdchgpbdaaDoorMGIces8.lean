/-
  Layer 9, huff: how many codes there are of each length. Conditions: as each theorem names.
  Layer 9, huff: Codes. Conditions: as each theorem names.
-/
import Derived.Test.YthflefdchgpbdaaDoorMHufZ
import Derived.Test.YthflefdchgpbdaaDoorMGIces0
import Derived.Laws.Rows
namespace Go.Proofs.YthflefdchgpbdaaDoor.Huf
open Go.ChangeShapes Go.WideShapes Go.ChangeAt Go.RowKit Go.Proofs.YthflefdchgpbdaaDoor.Kit Go.Proofs.YthflefdchgpbdaaDoor.Bits

/-- How many lengths are n. -/
def cnt : List Int → Int → Int
  | [], _ => 0
  | x :: l, n => (if x = n then 1 else 0) + cnt l n
/-- Of each length above 0. -/
def cnts (l : List Int) : List Int := (List.range 16).map fun (n : Nat) => if n = 0 then 0 else cnt l n

theorem cnt_append : ∀ (a b : List Int) (n : Int), cnt (a ++ b) n = cnt a n + cnt b n
  | [], b, n => by simp [cnt]
  | x :: a, b, n => by simp only [List.cons_append, cnt, cnt_append a b n]; omega
theorem cnt_bd : ∀ (l : List Int) (n : Int), 0 ≤ cnt l n ∧ cnt l n ≤ l.length
  | [], n => by simp [cnt]
  | x :: l, n => by
    have := cnt_bd l n
    simp only [cnt, List.length_cons]
    split <;> omega
theorem cnts_length (l : List Int) : (cnts l).length = 16 := by simp [cnts]
theorem cnts_get (l : List Int) (n : Nat) (h : n < 16) : (cnts l)[n]?.getD 0 = if n = 0 then 0 else cnt l n := by simp [cnts, h]
theorem cnts_snoc (l : List Int) (m : Nat) (h0 : 0 < m) (hm : m < 16) : cnts (l ++ [(m : Int)]) = (cnts l).set m (cnt l m + 1) := by
  apply List.ext_getElem?
  intro i
  by_cases hi : i < 16
  · rw [List.getElem?_set]
    by_cases him : m = i
    · subst him
      rw [if_pos rfl, if_pos (by rw [cnts_length]; exact hm)]
      simp [cnts, hm, cnt_append, cnt, show m ≠ 0 by omega]
    · rw [if_neg him]
      have : ((m : Int) = (i : Int)) = False := by simp; omega
      simp [cnts, hi, cnt_append, cnt, this]
  · rw [List.getElem?_eq_none (by rw [cnts_length]; omega), List.getElem?_eq_none (by rw [List.length_set, cnts_length]; omega)]
theorem cnts_skip (l : List Int) : cnts (l ++ [0]) = cnts l := by
  unfold cnts
  apply List.map_congr_left
  intro n _
  by_cases h : n = 0
  · simp [h]
  · have : ((0 : Int) = (n : Int)) = False := by simp; omega
    simp [h, cnt_append, cnt, this]

set_option maxHeartbeats 1600000 in
theorem counts_any (A : Option Addr) (l : List Int) (c : Nat) (w : World) (ho : Octets l) (h15 : ∀ n ∈ l, n ≤ 15) (hl : l.length ≤ 300) (hc : l.length ≤ c) (hm : c ≤ maxLen) (hr : Holds w w.heap.size .u8 A l) :
    Calls Tryd.prog 62 #[.slice A l.length c] w fun e w' => e = .returned (arrV .i64 (cnts l)) ∧ Below w.heap.size w w' := by
  unfold maxLen at hm
  have arr16 : Tryd.prog.underlying 105 = some (.array 16 3) := Tryd.underlying105
  have a1 : Arr (w.alloc (.cells #[.int .i64 0, .int .i64 0, .int .i64 0, .int .i64 0, .int .i64 0, .int .i64 0, .int .i64 0, .int .i64 0, .int .i64 0, .int .i64 0, .int .i64 0, .int .i64 0, .int .i64 0, .int .i64 0, .int .i64 0, .int .i64 0] 105)) w.heap.size 105 .i64 (cnts []) := Block.new w 105 #[.int .i64 0, .int .i64 0, .int .i64 0, .int .i64 0, .int .i64 0, .int .i64 0, .int .i64 0, .int .i64 0, .int .i64 0, .int .i64 0, .int .i64 0, .int .i64 0, .int .i64 0, .int .i64 0, .int .i64 0, .int .i64 0]
  have a2 : Arr ((w.alloc (.cells #[.int .i64 0, .int .i64 0, .int .i64 0, .int .i64 0, .int .i64 0, .int .i64 0, .int .i64 0, .int .i64 0, .int .i64 0, .int .i64 0, .int .i64 0, .int .i64 0, .int .i64 0, .int .i64 0, .int .i64 0, .int .i64 0] 105)).alloc (.cells #[.int .i64 0, .int .i64 0, .int .i64 0, .int .i64 0, .int .i64 0, .int .i64 0, .int .i64 0, .int .i64 0, .int .i64 0, .int .i64 0, .int .i64 0, .int .i64 0, .int .i64 0, .int .i64 0, .int .i64 0, .int .i64 0] 105)) (w.heap.size + 1) 105 .i64 (cnts []) := by
    have := Block.new (w.alloc (.cells #[.int .i64 0, .int .i64 0, .int .i64 0, .int .i64 0, .int .i64 0, .int .i64 0, .int .i64 0, .int .i64 0, .int .i64 0, .int .i64 0, .int .i64 0, .int .i64 0, .int .i64 0, .int .i64 0, .int .i64 0, .int .i64 0] 105)) 105 #[.int .i64 0, .int .i64 0, .int .i64 0, .int .i64 0, .int .i64 0, .int .i64 0, .int .i64 0, .int .i64 0, .int .i64 0, .int .i64 0, .int .i64 0, .int .i64 0, .int .i64 0, .int .i64 0, .int .i64 0, .int .i64 0]
    rw [show (w.alloc (.cells #[.int .i64 0, .int .i64 0, .int .i64 0, .int .i64 0, .int .i64 0, .int .i64 0, .int .i64 0, .int .i64 0, .int .i64 0, .int .i64 0, .int .i64 0, .int .i64 0, .int .i64 0, .int .i64 0, .int .i64 0, .int .i64 0] 105)).heap.size = w.heap.size + 1 by simp] at this
    exact this
  have a1' := a1.alloc (.cells #[.int .i64 0, .int .i64 0, .int .i64 0, .int .i64 0, .int .i64 0, .int .i64 0, .int .i64 0, .int .i64 0, .int .i64 0, .int .i64 0, .int .i64 0, .int .i64 0, .int .i64 0, .int .i64 0, .int .i64 0, .int .i64 0] 105)
  have b1 := ((Below.refl w.heap.size w).alloc (Nat.le_refl _) (.cells #[.int .i64 0, .int .i64 0, .int .i64 0, .int .i64 0, .int .i64 0, .int .i64 0, .int .i64 0, .int .i64 0, .int .i64 0, .int .i64 0, .int .i64 0, .int .i64 0, .int .i64 0, .int .i64 0, .int .i64 0, .int .i64 0] 105)).alloc (by simp) (.cells #[.int .i64 0, .int .i64 0, .int .i64 0, .int .i64 0, .int .i64 0, .int .i64 0, .int .i64 0, .int .i64 0, .int .i64 0, .int .i64 0, .int .i64 0, .int .i64 0, .int .i64 0, .int .i64 0, .int .i64 0, .int .i64 0] 105)
  go_enter Tryd.func62, Tryd.ntmps62
  go_wp2_with fail
  clear a1
  generalize (w.alloc (.cells #[.int .i64 0, .int .i64 0, .int .i64 0, .int .i64 0, .int .i64 0, .int .i64 0, .int .i64 0, .int .i64 0, .int .i64 0, .int .i64 0, .int .i64 0, .int .i64 0, .int .i64 0, .int .i64 0, .int .i64 0, .int .i64 0] 105)).alloc (.cells #[.int .i64 0, .int .i64 0, .int .i64 0, .int .i64 0, .int .i64 0, .int .i64 0, .int .i64 0, .int .i64 0, .int .i64 0, .int .i64 0, .int .i64 0, .int .i64 0, .int .i64 0, .int .i64 0, .int .i64 0, .int .i64 0] 105) = w2 at *
  go_loopw [8] (fun s wr => ∃ i : Nat, i ≤ l.length ∧ s = .int .i64 i ∧ Arr wr (w.heap.size + 1) 105 .i64 (cnts (l.take i)) ∧ Arr wr w.heap.size 105 .i64 (cnts []) ∧ Below w.heap.size w wr) (fun s _ => l.length - (intOf s).toNat)
  case atStart => exact ⟨0, Nat.zero_le _, rfl, a2, a1', b1⟩
  case round =>
    obtain ⟨i, hi, rfl, r2, r1, hb⟩ := hrel
    by_cases hlt : i < l.length
    · obtain ⟨bb, off, rfl, hbl, hcs⟩ := (hr.below hb) (by omega)
      have hci := hcs i hlt
      rw [show l.getD i 0 = l[i] by simp [List.getD, hlt]] at hci
      have hts := take_snoc l i hlt
      have hx := ho l[i] (List.getElem_mem hlt)
      have hx15 := h15 l[i] (List.getElem_mem hlt)
      have hcb := cnt_bd (l.take i) l[i]
      have htl : (l.take i).length ≤ 300 := by simp; omega
      have hcb2 : 0 ≤ cnt (l.take i) l[i] ∧ cnt (l.take i) l[i] ≤ 300 := by omega
      have Hts := Lib.hid hts
      clear hts hcs hcb
      generalize l[i] = x at *
      obtain ⟨m, rfl⟩ := Int.eq_ofNat_of_zero_le hx.1
      by_cases h0 : 0 < m
      · have hget := cnts_get (l.take i) m (by omega)
        rw [if_neg (by omega)] at hget
        have hcell := r2.cell (i := m) (by rw [cnts_length]; omega)
        rw [hget] at hcell
        have hfr := r2.frozen m
        have hset := cnts_snoc (l.take i) m h0 (by omega)
        have r3 := r2.set_ m (cnt (l.take i) (m : Int) + 1)
        have r13 := r1.far (p := ⟨w.heap.size + 1, m, none⟩) (by simp) (.int .i64 (cnt (l.take i) (m : Int) + 1))
        have hb3 := hb.setCell (p := ⟨w.heap.size + 1, m, none⟩) (by simp) (.int .i64 (cnt (l.take i) (m : Int) + 1))
        rw [← hset] at r3
        have d0 : decide ((0 : Int) < (m : Int)) = true := decide_eq_true (by omega)
        have dm : (m : Int) < 16 := by omega
        clear hget hset
        generalize cnt (l.take i) (m : Int) = C at *
        go_wp2_with fail
        go_roundw
        case rel => exact ⟨i + 1, by omega, by go_num, by rw [Hts.out]; exact r3, r13, hb3⟩
        case measure => simp [intOf] <;> omega
      · obtain rfl : m = 0 := by omega
        have hsk := cnts_skip (l.take i)
        have Hsk := Lib.hid hsk
        clear hsk
        simp only [Int.natCast_zero] at *
        go_wp2_with fail
        go_roundw
        case rel => exact ⟨i + 1, by omega, by go_num, by rw [Hts.out, Hsk.out]; exact r2, r1, hb⟩
        case measure => simp [intOf] <;> omega
    · obtain rfl : i = l.length := by omega
      rw [List.take_of_length_le (Nat.le_refl _)] at r2
      go_wp2_with (first
        | (refine wpList_load_arr rfl _ _ rfl r2 rfl arr16 rfl (by rw [cnts_length]; kernel_rfl) ?_)
        | (refine wpList_store_arr rfl _ _ _ rfl r1 rfl rfl (by rw [cnts_length, cnts_length]) (by rw [cnts_length]; kernel_rfl) ?_; intro w4 r4 g4))
      refine bodyPost_ret (v := arrV .i64 (cnts l)) (results_cell_row rfl _ _ w.heap.size 105 _ (0, 0) _ rfl r4 arr16 rfl (by rw [show ((cnts l).map (Value.int .i64)).toArray.size = 16 by simp [cnts_length]]; kernel_rfl)) rfl ⟨rfl, ?_⟩
      exact hb.trans (below_of_grown g4 hb.size fun g hg => by injection hg with hg; omega)
end Go.Proofs.YthflefdchgpbdaaDoor.Huf

namespace Go.Proofs.YthflefdchgpbdaaDoor.Huf
open Go.ChangeShapes Go.WideShapes Go.ChangeAt Go.RowKit Go.Proofs.YthflefdchgpbdaaDoor.Kit Go.Proofs.YthflefdchgpbdaaDoor.Bits

/-- The first code of each length. -/
def fc (l : List Int) : Nat → Int
  | 0 => 0
  | n + 1 => if n = 0 then 0 else 2 * (fc l n + cnt l n)
/-- The first codes of lengths below k. -/
def firsts (l : List Int) (k : Nat) : List Int := (List.range 16).map fun n => if n < k then fc l n else 0
/-- The next codes, behind some symbols. -/
def nexts (l pre : List Int) : List Int := (List.range 16).map fun (n : Nat) => if n = 0 then 0 else fc l n + cnt pre n
def code (l : List Int) (i : Nat) : Int := if 0 < l.getD i 0 then (fc l (l.getD i 0).toNat + cnt (l.take i) (l.getD i 0)) % 65536 else 0
/-- All symbols' codes. -/
def codes (l : List Int) : List Int := (List.range l.length).map (code l)

theorem fc_bd (l : List Int) (hl : l.length ≤ 300) : ∀ n, 0 ≤ fc l n ∧ fc l n ≤ 600 * (2 ^ n - 1)
  | 0 => by simp [fc]
  | n + 1 => by
    have h1 := fc_bd l hl n
    have h2 := cnt_bd l n
    have h3 := p2_pos n
    rw [fc, Int.pow_succ]
    split <;> omega
theorem fc_15 (l : List Int) (hl : l.length ≤ 300) (n : Nat) (hn : n ≤ 15) : 0 ≤ fc l n ∧ fc l n ≤ 19660200 := by
  have h1 := fc_bd l hl n
  have h2 : (2 : Int) ^ n ≤ 2 ^ 15 := p2_le hn
  rw [show (2 : Int) ^ 15 = 32768 by decide] at h2
  omega
theorem firsts_length (l : List Int) (k : Nat) : (firsts l k).length = 16 := by simp [firsts]
theorem nexts_length (l pre : List Int) : (nexts l pre).length = 16 := by simp [nexts]
theorem firsts_get (l : List Int) (k n : Nat) (h : n < 16) : (firsts l k)[n]?.getD 0 = if n < k then fc l n else 0 := by simp [firsts, h]
theorem nexts_get (l pre : List Int) (n : Nat) (h : n < 16) : (nexts l pre)[n]?.getD 0 = if n = 0 then 0 else fc l n + cnt pre n := by simp [nexts, h]
theorem firsts_two (l : List Int) : firsts l 2 = List.replicate 16 0 := by
  unfold firsts
  rw [show (List.range 16) = [0, 1, 2, 3, 4, 5, 6, 7, 8, 9, 10, 11, 12, 13, 14, 15] by decide]
  simp [fc, List.replicate]
theorem firsts_next (l : List Int) (k : Nat) (h0 : 0 < k) (h : k < 16) : firsts l (k + 1) = (firsts l k).set k (fc l k) := by
  apply List.ext_getElem?
  intro i
  by_cases hi : i < 16
  · rw [List.getElem?_set]
    by_cases him : k = i
    · subst him
      rw [if_pos rfl, if_pos (by rw [firsts_length]; exact h)]
      simp [firsts, h]
    · rw [if_neg him]
      simp [firsts, hi, show (i < k + 1) = (i < k) from propext ⟨fun h => by omega, fun h => by omega⟩]
  · rw [List.getElem?_eq_none (by rw [firsts_length]; omega), List.getElem?_eq_none (by rw [List.length_set, firsts_length]; omega)]
theorem firsts_all (l : List Int) : firsts l 16 = nexts l [] := by
  unfold firsts nexts
  apply List.map_congr_left
  intro n hn
  have := List.mem_range.1 hn
  rw [if_pos this]
  by_cases h : n = 0
  · subst h; rfl
  · rw [if_neg h]; simp [cnt]
theorem nexts_snoc (l pre : List Int) (m : Nat) (h0 : 0 < m) (hm : m < 16) : nexts l (pre ++ [(m : Int)]) = (nexts l pre).set m (fc l m + cnt pre m + 1) := by
  apply List.ext_getElem?
  intro i
  by_cases hi : i < 16
  · rw [List.getElem?_set]
    by_cases him : m = i
    · subst him
      rw [if_pos rfl, if_pos (by rw [nexts_length]; exact hm)]
      simp [nexts, hm, cnt_append, cnt, show m ≠ 0 by omega, Int.add_assoc]
    · rw [if_neg him]
      have : ((m : Int) = (i : Int)) = False := by simp; omega
      simp [nexts, hi, cnt_append, cnt, this]
  · rw [List.getElem?_eq_none (by rw [nexts_length]; omega), List.getElem?_eq_none (by rw [List.length_set, nexts_length]; omega)]
theorem nexts_skip (l pre : List Int) : nexts l (pre ++ [0]) = nexts l pre := by
  unfold nexts
  apply List.map_congr_left
  intro n _
  by_cases h : n = 0
  · simp [h]
  · have : ((0 : Int) = (n : Int)) = False := by simp; omega
    simp [h, cnt_append, cnt, this]

/-- The codes of the first i symbols, and zeros. -/
def some_ (l : List Int) (i : Nat) : List Int := (List.range l.length).map fun j => if j < i then code l j else 0
theorem some_length (l : List Int) (i : Nat) : (some_ l i).length = l.length := by simp [some_]
theorem some_zero (l : List Int) : some_ l 0 = List.replicate l.length 0 := by
  apply List.ext_getElem
  · simp [some_]
  · intro i h1 h2
    simp [some_]
theorem some_all (l : List Int) : some_ l l.length = codes l := by
  unfold some_ codes
  apply List.map_congr_left
  intro n hn
  rw [if_pos (List.mem_range.1 hn)]
theorem some_next (l : List Int) (i : Nat) (h : i < l.length) : some_ l (i + 1) = (some_ l i).set i (code l i) := by
  apply List.ext_getElem?
  intro j
  by_cases hj : j < l.length
  · rw [List.getElem?_set]
    by_cases hij : i = j
    · subst hij
      rw [if_pos rfl, if_pos (by rw [some_length]; exact hj)]
      simp [some_, hj]
    · rw [if_neg hij]
      simp [some_, hj, show (j < i + 1) = (j < i) from propext ⟨fun h => by omega, fun h => by omega⟩]
  · rw [List.getElem?_eq_none (by rw [some_length]; omega), List.getElem?_eq_none (by rw [List.length_set, some_length]; omega)]
theorem some_skip (l : List Int) (i : Nat) (h : i < l.length) (h0 : ¬ 0 < l.getD i 0) : some_ l (i + 1) = some_ l i := by
  unfold some_
  apply List.map_congr_left
  intro n hn
  by_cases hni : n = i
  · subst hni
    have : code l n = 0 := by unfold code; rw [if_neg h0]
    simp [this]
  · simp only [show (n < i + 1) = (n < i) from propext ⟨fun h => by omega, fun h => by omega⟩]

theorem may_yes {l : List Int} (h : mayB l = true) : l.length ≤ 300 ∧ ∀ n ∈ l, n ≤ 15 := by
  unfold mayB at h
  simp only [Bool.and_eq_true, decide_eq_true_eq, List.all_eq_true] at h
  exact ⟨h.1.1, h.1.2⟩

theorem elem16 : IntElem Tryd.prog 63 100 .u16 2 := ⟨Tryd.underlying63, by kernel_rfl, by omega⟩

/-- What Codes leaves. -/
def CodesOk (l : List Int) (w : World) (e : Ending) (w' : World) : Prop := ∃ v, e = .returned (.tuple #[v, .int .i64 0]) ∧ Own w' w.heap.size 100 .u16 v (codes l) ∧ Below w.heap.size w w'

end Go.Proofs.YthflefdchgpbdaaDoor.Huf
