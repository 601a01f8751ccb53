/-
  Layer 9, huff: Codes. Conditions: as each theorem names.
-/
import Derived.Test.YthmkeflkhocobaaDoorMHufC
import Derived.Test.YthmkeflkhocobaaDoorMGInds2
namespace Go.Proofs.YthmkeflkhocobaaDoor.Huf
open Go.ChangeShapes Go.WideShapes Go.ChangeAt Go.RowKit Go.Proofs.YthmkeflkhocobaaDoor.Kit Go.Proofs.YthmkeflkhocobaaDoor.Bits

/-- The first code of each length. -/
def fc (l : List Int) : Nat → Int
  | 0 => 0
  | n + 1 => if n = 0 then 0 else 2 * (fc l n + cnt l n)
/-- The first codes of lengths below k. -/
def firsts (l : List Int) (k : Nat) : List Int := (List.range 16).map fun n => if n < k then fc l n else 0
/-- The next codes, behind some symbols. -/
def nexts (l pre : List Int) : List Int := (List.range 16).map fun (n : Nat) => if n = 0 then 0 else fc l n + cnt pre n
def code (l : List Int) (i : Nat) : Int := if 0 < l.getD i 0 then (fc l (l.getD i 0).toNat + cnt (l.take i) (l.getD i 0)) % 65536 else 0
/-- All symbols' codes. -/
def codes (l : List Int) : List Int := (List.range l.length).map (code l)

theorem fc_bd (l : List Int) (hl : l.length ≤ 300) : ∀ n, 0 ≤ fc l n ∧ fc l n ≤ 600 * (2 ^ n - 1)
  | 0 => by simp [fc]
  | n + 1 => by
    have h1 := fc_bd l hl n
    have h2 := cnt_bd l n
    have h3 := p2_pos n
    rw [fc, Int.pow_succ]
    split <;> omega
theorem fc_15 (l : List Int) (hl : l.length ≤ 300) (n : Nat) (hn : n ≤ 15) : 0 ≤ fc l n ∧ fc l n ≤ 19660200 := by
  have h1 := fc_bd l hl n
  have h2 : (2 : Int) ^ n ≤ 2 ^ 15 := p2_le hn
  rw [show (2 : Int) ^ 15 = 32768 by decide] at h2
  omega
theorem firsts_length (l : List Int) (k : Nat) : (firsts l k).length = 16 := by simp [firsts]
theorem nexts_length (l pre : List Int) : (nexts l pre).length = 16 := by simp [nexts]
theorem firsts_get (l : List Int) (k n : Nat) (h : n < 16) : (firsts l k)[n]?.getD 0 = if n < k then fc l n else 0 := by simp [firsts, h]
theorem nexts_get (l pre : List Int) (n : Nat) (h : n < 16) : (nexts l pre)[n]?.getD 0 = if n = 0 then 0 else fc l n + cnt pre n := by simp [nexts, h]
theorem firsts_two (l : List Int) : firsts l 2 = List.replicate 16 0 := by
  unfold firsts
  rw [show (List.range 16) = [0, 1, 2, 3, 4, 5, 6, 7, 8, 9, 10, 11, 12, 13, 14, 15] by decide]
  simp [fc, List.replicate]
theorem firsts_next (l : List Int) (k : Nat) (h0 : 0 < k) (h : k < 16) : firsts l (k + 1) = (firsts l k).set k (fc l k) := by
  apply List.ext_getElem?
  intro i
  by_cases hi : i < 16
  · rw [List.getElem?_set]
    by_cases him : k = i
    · subst him
      rw [if_pos rfl, if_pos (by rw [firsts_length]; exact h)]
      simp [firsts, h]
    · rw [if_neg him]
      simp [firsts, hi, show (i < k + 1) = (i < k) from propext ⟨fun h => by omega, fun h => by omega⟩]
  · rw [List.getElem?_eq_none (by rw [firsts_length]; omega), List.getElem?_eq_none (by rw [List.length_set, firsts_length]; omega)]
theorem firsts_all (l : List Int) : firsts l 16 = nexts l [] := by
  unfold firsts nexts
  apply List.map_congr_left
  intro n hn
  have := List.mem_range.1 hn
  rw [if_pos this]
  by_cases h : n = 0
  · subst h; rfl
  · rw [if_neg h]; simp [cnt]
theorem nexts_snoc (l pre : List Int) (m : Nat) (h0 : 0 < m) (hm : m < 16) : nexts l (pre ++ [(m : Int)]) = (nexts l pre).set m (fc l m + cnt pre m + 1) := by
  apply List.ext_getElem?
  intro i
  by_cases hi : i < 16
  · rw [List.getElem?_set]
    by_cases him : m = i
    · subst him
      rw [if_pos rfl, if_pos (by rw [nexts_length]; exact hm)]
      simp [nexts, hm, cnt_append, cnt, show m ≠ 0 by omega, Int.add_assoc]
    · rw [if_neg him]
      have : ((m : Int) = (i : Int)) = False := by simp; omega
      simp [nexts, hi, cnt_append, cnt, this]
  · rw [List.getElem?_eq_none (by rw [nexts_length]; omega), List.getElem?_eq_none (by rw [List.length_set, nexts_length]; omega)]
theorem nexts_skip (l pre : List Int) : nexts l (pre ++ [0]) = nexts l pre := by
  unfold nexts
  apply List.map_congr_left
  intro n _
  by_cases h : n = 0
  · simp [h]
  · have : ((0 : Int) = (n : Int)) = False := by simp; omega
    simp [h, cnt_append, cnt, this]

/-- The codes of the first i symbols, and zeros. -/
def some_ (l : List Int) (i : Nat) : List Int := (List.range l.length).map fun j => if j < i then code l j else 0
theorem some_length (l : List Int) (i : Nat) : (some_ l i).length = l.length := by simp [some_]
theorem some_zero (l : List Int) : some_ l 0 = List.replicate l.length 0 := by
  apply List.ext_getElem
  · simp [some_]
  · intro i h1 h2
    simp [some_]
theorem some_all (l : List Int) : some_ l l.length = codes l := by
  unfold some_ codes
  apply List.map_congr_left
  intro n hn
  rw [if_pos (List.mem_range.1 hn)]
theorem some_next (l : List Int) (i : Nat) (h : i < l.length) : some_ l (i + 1) = (some_ l i).set i (code l i) := by
  apply List.ext_getElem?
  intro j
  by_cases hj : j < l.length
  · rw [List.getElem?_set]
    by_cases hij : i = j
    · subst hij
      rw [if_pos rfl, if_pos (by rw [some_length]; exact hj)]
      simp [some_, hj]
    · rw [if_neg hij]
      simp [some_, hj, show (j < i + 1) = (j < i) from propext ⟨fun h => by omega, fun h => by omega⟩]
  · rw [List.getElem?_eq_none (by rw [some_length]; omega), List.getElem?_eq_none (by rw [List.length_set, some_length]; omega)]
theorem some_skip (l : List Int) (i : Nat) (h : i < l.length) (h0 : ¬ 0 < l.getD i 0) : some_ l (i + 1) = some_ l i := by
  unfold some_
  apply List.map_congr_left
  intro n hn
  by_cases hni : n = i
  · subst hni
    have : code l n = 0 := by unfold code; rw [if_neg h0]
    simp [this]
  · simp only [show (n < i + 1) = (n < i) from propext ⟨fun h => by omega, fun h => by omega⟩]

theorem may_yes {l : List Int} (h : mayB l = true) : l.length ≤ 300 ∧ ∀ n ∈ l, n ≤ 15 := by
  unfold mayB at h
  simp only [Bool.and_eq_true, decide_eq_true_eq, List.all_eq_true] at h
  exact ⟨h.1.1, h.1.2⟩

theorem elem16 : IntElem Tryd.prog 60 110 .u16 2 := ⟨Tryd.underlying60, by kernel_rfl, by omega⟩

theorem codes_no (A : Option Addr) (l : List Int) (c : Nat) (w : World) (ho : Octets l) (hc : l.length ≤ c) (hm : c ≤ maxLen) (hr : Holds w w.heap.size .u8 A l) (h : mayB l = false) :
    Calls Tryd.prog 63 #[.slice A l.length c] w fun e w' => e = .returned (.tuple #[.slice none 0 0, .int .i64 3]) ∧ w = w' := by
  have g := may_any A l c w ho hc hm hr
  rw [h] at g
  have G := Lib.hid g
  clear g h
  go_enter Tryd.func63, Tryd.ntmps63
  go_wp2_with (go_at_call 86; refine G.out.mono ?_; rintro e w1 ⟨rfl, rfl⟩)
  go_ret2
  exact ⟨rfl, rfl⟩

/-- What Codes leaves. -/
def CodesOk (l : List Int) (w : World) (e : Ending) (w' : World) : Prop := ∃ v, e = .returned (.tuple #[v, .int .i64 0]) ∧ Own w' w.heap.size 110 .u16 v (codes l) ∧ Below w.heap.size w w'

set_option maxHeartbeats 6400000 in
theorem codes_yes (A : Option Addr) (l : List Int) (c : Nat) (w : World) (ho : Octets l) (hc : l.length ≤ c) (hm : c ≤ maxLen) (hr : Holds w w.heap.size .u8 A l) (h : mayB l = true) :
    Calls Tryd.prog 63 #[.slice A l.length c] w (CodesOk l w) := by
  obtain ⟨hl, h15⟩ := may_yes h
  have g := may_any A l c w ho hc hm hr
  rw [h] at g
  have G := Lib.hid g
  have G2 := Lib.hid (counts_any A l c w ho h15 hl hc hm hr)
  clear g h
  unfold maxLen at hm
  go_enter Tryd.func63, Tryd.ntmps63
  go_wp2_with (go_at_call 86; refine G.out.mono ?_; rintro e w1 ⟨rfl, rfl⟩)
  refine G2.out.mono ?_
  rintro e w1 ⟨rfl, b1⟩
  have aZ : Arr (w1.alloc (.cells #[.int .i64 0, .int .i64 0, .int .i64 0, .int .i64 0, .int .i64 0, .int .i64 0, .int .i64 0, .int .i64 0, .int .i64 0, .int .i64 0, .int .i64 0, .int .i64 0, .int .i64 0, .int .i64 0, .int .i64 0, .int .i64 0] 141)) w1.heap.size 141 .i64 (cnts []) := Block.new w1 141 #[.int .i64 0, .int .i64 0, .int .i64 0, .int .i64 0, .int .i64 0, .int .i64 0, .int .i64 0, .int .i64 0, .int .i64 0, .int .i64 0, .int .i64 0, .int .i64 0, .int .i64 0, .int .i64 0, .int .i64 0, .int .i64 0]
  have bZ := b1.alloc b1.size (.cells #[.int .i64 0, .int .i64 0, .int .i64 0, .int .i64 0, .int .i64 0, .int .i64 0, .int .i64 0, .int .i64 0, .int .i64 0, .int .i64 0, .int .i64 0, .int .i64 0, .int .i64 0, .int .i64 0, .int .i64 0, .int .i64 0] 141)
  have hsZ : (w1.alloc (.cells #[.int .i64 0, .int .i64 0, .int .i64 0, .int .i64 0, .int .i64 0, .int .i64 0, .int .i64 0, .int .i64 0, .int .i64 0, .int .i64 0, .int .i64 0, .int .i64 0, .int .i64 0, .int .i64 0, .int .i64 0, .int .i64 0] 141)).heap.size = w1.heap.size + 1 := by simp
  have HsZ := Lib.hid hsZ
  clear hsZ
  go_wp2_with (refine wpList_store_arr rfl _ _ _ rfl aZ rfl rfl (by rw [cnts_length, cnts_length]) (by rw [cnts_length]; kernel_rfl) ?_; intro w4 r4 g4; have b4 := bZ.trans (below_of_grown g4 bZ.size fun g hg => by injection hg with hg; have := b1.size; omega); have hs4 := g4.size; rw [HsZ.out] at hs4)
  have aN : Arr (w4.alloc (.cells #[.int .i64 0, .int .i64 0, .int .i64 0, .int .i64 0, .int .i64 0, .int .i64 0, .int .i64 0, .int .i64 0, .int .i64 0, .int .i64 0, .int .i64 0, .int .i64 0, .int .i64 0, .int .i64 0, .int .i64 0, .int .i64 0] 141)) w4.heap.size 141 .i64 (firsts l 2) := by
    rw [firsts_two]
    exact Block.new w4 141 #[.int .i64 0, .int .i64 0, .int .i64 0, .int .i64 0, .int .i64 0, .int .i64 0, .int .i64 0, .int .i64 0, .int .i64 0, .int .i64 0, .int .i64 0, .int .i64 0, .int .i64 0, .int .i64 0, .int .i64 0, .int .i64 0]
  have aM := r4.alloc (.cells #[.int .i64 0, .int .i64 0, .int .i64 0, .int .i64 0, .int .i64 0, .int .i64 0, .int .i64 0, .int .i64 0, .int .i64 0, .int .i64 0, .int .i64 0, .int .i64 0, .int .i64 0, .int .i64 0, .int .i64 0, .int .i64 0] 141)
  have b5 := b4.alloc b4.size (.cells #[.int .i64 0, .int .i64 0, .int .i64 0, .int .i64 0, .int .i64 0, .int .i64 0, .int .i64 0, .int .i64 0, .int .i64 0, .int .i64 0, .int .i64 0, .int .i64 0, .int .i64 0, .int .i64 0, .int .i64 0, .int .i64 0] 141)
  have hs1 := b1.size
  generalize hw5 : w4.alloc (.cells #[.int .i64 0, .int .i64 0, .int .i64 0, .int .i64 0, .int .i64 0, .int .i64 0, .int .i64 0, .int .i64 0, .int .i64 0, .int .i64 0, .int .i64 0, .int .i64 0, .int .i64 0, .int .i64 0, .int .i64 0, .int .i64 0] 141) = w5 at *
  have hs5 : w5.heap.size = w4.heap.size + 1 := by rw [← hw5]; simp
  clear hw5
  go_loopw [6] (fun s wr => ∃ k : Nat, 2 ≤ k ∧ k ≤ 16 ∧ s = .int .i64 k ∧ Arr wr w1.heap.size 141 .i64 (cnts l) ∧ Arr wr w4.heap.size 141 .i64 (firsts l k) ∧ Below w.heap.size w wr ∧ w4.heap.size + 1 ≤ wr.heap.size) (fun s _ => 16 - (intOf s).toNat)
  case atStart => exact ⟨2, by omega, by omega, rfl, aM, aN, b5, by omega⟩
  case round =>
    obtain ⟨k, hk2, hk16, rfl, rM, rN, hb, hsr⟩ := hrel
    by_cases hlt : k < 16
    · obtain ⟨j, rfl⟩ : ∃ j, k = j + 1 := ⟨k - 1, by omega⟩
      have d0 : decide (((j + 1 : Nat) : Int) ≤ 15) = true := decide_eq_true (by omega)
      have g1 := firsts_get l (j + 1) j (by omega)
      rw [if_pos (by omega)] at g1
      have g2 := cnts_get l j (by omega)
      rw [if_neg (by omega)] at g2
      have c1 := rN.cell (i := j) (by rw [firsts_length]; omega)
      have c2 := rM.cell (i := j) (by rw [cnts_length]; omega)
      have c3 := rN.cell (i := j + 1) (by rw [firsts_length]; omega)
      have hfr := rN.frozen (j + 1)
      rw [g1] at c1
      rw [g2] at c2
      have hfc := fc_15 l hl j (by omega)
      have hcn := cnt_bd l j
      have hcn2 : 0 ≤ cnt l j ∧ cnt l j ≤ 300 := by omega
      have hnext := firsts_next l (j + 1) (by omega) (by omega)
      have hval : fc l (j + 1) = 2 * (fc l j + cnt l j) := by rw [fc, if_neg (by omega)]
      rw [hval] at hnext
      have rN2 := rN.set_ (j + 1) (2 * (fc l j + cnt l j))
      rw [← hnext] at rN2
      have rM2 := rM.far (p := ⟨w4.heap.size, j + 1, none⟩) (by have := g4.size; simp; omega) (.int .i64 (2 * (fc l j + cnt l j)))
      have hb2 := hb.setCell (p := ⟨w4.heap.size, j + 1, none⟩) (by have := b4.size; simp; omega) (.int .i64 (2 * (fc l j + cnt l j)))
      have hj16 : (j : Int) + 1 < 16 := by omega
      have hj0 : (0 : Int) ≤ (j : Int) := by omega
      have hw1 : IntKind.i64.wrap ((j : Int) + 1 - 1) = (j : Int) := by rw [show (j : Int) + 1 - 1 = j by omega]; exact IntWalk.i64_in _ (by omega)
      clear g1 g2 hnext hval hcn
      generalize fc l j = F at *
      generalize cnt l j = C at *
      go_wp2_with fail
      go_region
      all_goals
        go_wp2_with fail
        go_roundw
        case rel => exact ⟨j + 2, by omega, by omega, by go_num, rM2.drewN 1, rN2.drewN 1, below_draws hb2 1, by simpa using hsr⟩
        case measure => simp [intOf] <;> omega
    · obtain rfl : k = 16 := by omega
      rw [firsts_all] at rN
      have d0 : decide (((16 : Nat) : Int) ≤ 15) = false := decide_eq_false (by omega)
      have hs0 := hb.size
      go_wp2_with (at_make; refine wpList_make_ints _ rfl _ _ _ rfl elem16 l.length l.length rfl rfl rfl rfl (Nat.le_refl _) (by omega) ?_; intro w6 own6 b6 s6)
      have hb6 := hb.trans (b6.mono hs0)
      have rN6 := rN.below b6 (by omega)
      rw [← some_zero] at own6
      generalize wr.heap.size = G at *
      go_loopw [36] (fun s wq => ∃ i : Nat, i ≤ l.length ∧ s = .int .i64 i ∧ Arr wq w4.heap.size 141 .i64 (nexts l (l.take i)) ∧ Own wq G 110 .u16 (.slice (some ⟨G, 0, none⟩) l.length l.length) (some_ l i) ∧ Below w.heap.size w wq) (fun s _ => l.length - (intOf s).toNat)
      case atStart => exact ⟨0, Nat.zero_le _, rfl, rN6, own6, hb6⟩
      case round =>
        obtain ⟨i, hi, rfl, r2, own, hb⟩ := hrel
        have hw4 := b4.size
        by_cases hlt : i < l.length
        · obtain ⟨bb, off, rfl, hbl, hcs⟩ := (hr.below hb) (by omega)
          have hci := hcs i hlt
          have hcode := some_next l i hlt
          unfold code at hcode
          have hskip := some_skip l i hlt
          rw [show l.getD i 0 = l[i] by simp [List.getD, hlt]] at hci hcode hskip
          have hts := take_snoc l i hlt
          have hx := ho l[i] (List.getElem_mem hlt)
          have hx15 := h15 l[i] (List.getElem_mem hlt)
          have hcb := cnt_bd (l.take i) l[i]
          have htl : (l.take i).length ≤ 300 := by simp; omega
          have hcb2 : 0 ≤ cnt (l.take i) l[i] ∧ cnt (l.take i) l[i] ≤ 300 := by omega
          have Hts := Lib.hid hts
          have hsl := some_length l i
          clear hts hcs hcb
          generalize l[i] = x at *
          obtain ⟨m, rfl⟩ := Int.eq_ofNat_of_zero_le hx.1
          have hil : (i : Int) < (l.length : Int) := by omega
          by_cases h0 : 0 < m
          · have hfc := fc_15 l hl m (by omega)
            have hget := nexts_get l (l.take i) m (by omega)
            rw [if_neg (by omega)] at hget
            have hcell := r2.cell (i := m) (by rw [nexts_length]; omega)
            rw [hget] at hcell
            have hset := nexts_snoc l (l.take i) m h0 (by omega)
            rw [if_pos (by omega), Int.toNat_natCast] at hcode
            have d0 : decide ((0 : Int) < (m : Int)) = true := decide_eq_true (by omega)
            have dm : (m : Int) < 16 := by omega
            have hF : 0 ≤ fc l m + cnt (l.take i) (m : Int) ∧ fc l m + cnt (l.take i) (m : Int) ≤ 19660500 := by omega
            clear hget hskip hfc hcb2
            generalize fc l m + cnt (l.take i) (m : Int) = F at *
            rw [← IntKind.wrap_u16] at hcode
            obtain ⟨o1, g1⟩ := own.stored hsl.symm i (IntKind.u16.wrap F)
            rw [← hcode] at o1
            have hfrz := own.frozenAt hsl.symm i
            have hci2 := own.cellAt hsl.symm (i := i) (by rw [hsl]; exact hlt)
            have hfr1 := r2.frozen m
            have r3 := r2.grown g1 (by simp; omega)
            have hci4 := r3.cell (i := m) (by rw [nexts_length]; omega)
            rw [(r2.cell (i := m) (by rw [nexts_length]; omega)).symm.trans hcell |> Option.some.inj |> Value.int.inj |>.2] at hci4
            have hfr4 := r3.frozen m
            have r4 := r3.set_ m (F + 1)
            rw [← hset] at r4
            have o2 := o1.out ((TurnsIn.refl (· = w4.heap.size) _).setCell (p := ⟨w4.heap.size, m, none⟩) (.inl rfl) (.int .i64 (F + 1))) (fun b hb he => by simp [Value.ownBlock] at hb; omega)
            have hb4 := (hb.trans (below_of_grown g1 hb.size fun g hg => by injection hg with hg; omega)).setCell (p := ⟨w4.heap.size, m, none⟩) (by simp; omega) (.int .i64 (F + 1))
            clear hset hcode r2 r3 own o1 g1
            go_wp2_with fail
            go_roundw
            case rel => exact ⟨i + 1, by omega, by go_num, by rw [Hts.out]; exact r4, o2, hb4⟩
            case measure => simp [intOf] <;> omega
          · obtain rfl : m = 0 := by omega
            have hsk := nexts_skip l (l.take i)
            rw [Int.natCast_zero] at Hts hci hskip
            rw [← hskip (by omega)] at own
            have Hsk := Lib.hid hsk
            clear hsk hcode hskip
            go_wp2_with fail
            go_roundw
            case rel => exact ⟨i + 1, by omega, by go_num, by rw [Hts.out, Hsk.out]; exact r2, own, hb⟩
            case measure => simp [intOf] <;> omega
        · obtain rfl : i = l.length := by omega
          rw [some_all] at own
          go_wp2_with fail
          go_ret2
          exact ⟨_, rfl, own.mono (by have := b4.size; omega), hb⟩
end Go.Proofs.YthmkeflkhocobaaDoor.Huf
