/-
  Layer 30, the line of an act: plain words, and the contracts of its first word and of its letters. Conditions: as each theorem names.
  Layer 30, the line of an act: its contract. Conditions: as each theorem names.
  Layer 30, the line of an act: plain: it is read as that act, and back. No program. No conditions beyond what each theorem names.
  Layer 30: the example; the document's comparison of acts; an act that comes in; the table. Conditions: as each theorem names.
-/
import Derived.Test.YtpdlibegjkbknaaDoorMTzA
import Derived.Test.YtpdlibegjkbknaaDoorMTyE
import Derived.Lib.ConvBytes
import Derived.Lib.AtoiErrMem
import Derived.Test.YtpdlibegjkbknaaDoorMGSnes0
import Derived.IntWalk
import Derived.MakeChecks
import Derived.Lib.LaidTab
import Derived.LaidMore
import Derived.Stop.Joined
import Derived.OpenShut
namespace Go.Proofs.YtpdlibegjkbknaaDoor.Tz
open Go.Proofs
open Go.ChangeShapes Go.WideShapes Go.ChangeAt Go.RowKit Go.Proofs.YtpdlibegjkbknaaDoor.Kit Go.Proofs.YtpdlibegjkbknaaDoor.Tx Go.Proofs.YtpdlibegjkbknaaDoor.Ty

/-- An act's first word; none. -/
def wordP (k : Int) : List Int :=
  if k = 1 then [98, 117, 105, 108, 100] else if k = 2 then [102, 101, 101, 100] else if k = 3 then [98, 101, 103, 105, 110] else if k = 4 then [99, 111, 109, 109, 105, 116] else if k = 5 then [99, 97, 110, 99, 101, 108] else if k = 6 then [102, 117, 115, 101] else if k = 7 then [102, 97, 108, 108] else if k = 8 then [115, 112, 111, 105, 108] else if k = 9 then [105, 109, 97, 103, 101] else if k = 10 then [115, 116, 97, 116, 117, 115] else []
/-- What its line tells, a letter each. -/
def lettersP (k : Int) : List Int :=
  if k = 1 then [77, 86, 84] else if k = 2 then [80, 78] else if k = 6 then [78] else if k = 7 then [84] else if k = 8 then [80, 78, 77] else []
/-- What a letter tells of an act. -/
def textA (a : ActV) (f : Int) : List Int := if f = 77 then decL a.m.toNat else if f = 86 then decL a.v.toNat else if f = 84 then hexL a.d else if f = 80 then decL a.p.toNat else decL a.n.toNat
/-- The act without that. -/
def clearA (a : ActV) (f : Int) : ActV := if f = 77 then { a with m := 0 } else if f = 86 then { a with v := 0 } else if f = 84 then { a with d := [] } else if f = 80 then { a with p := 0 } else { a with n := 0 }
def stepP (x : List Int × ActV) (f : Int) : List Int × ActV := (x.1 ++ 32 :: textA x.2 f, clearA x.2 f)
def sumP (a : ActV) : List Int × ActV := (lettersP a.k).foldl stepP (wordP a.k, a)
def bareA (a : ActV) : Bool := decide (a.m = 0) && decide (a.v = 0) && decide (a.d.length = 0) && decide (a.p = 0) && decide (a.n = 0)
def inA (a : ActV) : Bool := decide (0 ≤ a.p) && decide (a.p ≤ 2147483647) && decide (0 ≤ a.n) && decide (a.n ≤ 2147483647) && decide (a.v ≤ 2147483647)
/-- An act's line; none. -/
def lineP (a : ActV) : Option (List Int) := if wordP a.k = [] ∨ inA a = false then none else if bareA (sumP a).2 = true then some (sumP a).1 else none
theorem letters_mem (k : Int) : ∀ f ∈ lettersP k, f = 77 ∨ f = 86 ∨ f = 84 ∨ f = 80 ∨ f = 78 := by
  intro f hf
  unfold lettersP at hf
  repeat' split at hf
  all_goals simp at hf
  all_goals omega
theorem letters_length (k : Int) : (lettersP k).length ≤ 3 := by
  unfold lettersP
  repeat' split
  all_goals decide
theorem letters_octets (k : Int) : Octets (lettersP k) := by
  intro f hf
  have := letters_mem k f hf
  omega
theorem word_length (k : Int) : (wordP k).length ≤ 6 := by
  unfold wordP
  repeat' split
  all_goals decide
theorem word_octets (k : Int) : Octets (wordP k) := by
  unfold wordP
  repeat' split
  all_goals (unfold Octets; decide)

set_option maxRecDepth 100000 in
set_option maxHeartbeats 6400000 in
theorem word_any (k : Int) (w : World) : Calls Tryd.prog 10 #[.int .u8 k] w fun e w' => e = .returned (.string (strOfNums (wordP k))) ∧ w' = w := by
  by_cases h1 : k = 1
  · subst h1
    go_enter Tryd.func10, Tryd.ntmps10
    go_wp2
    go_ret
    exact ⟨rfl, rfl⟩
  by_cases h2 : k = 2
  · subst h2
    go_enter Tryd.func10, Tryd.ntmps10
    go_wp2
    go_ret
    exact ⟨rfl, rfl⟩
  by_cases h3 : k = 3
  · subst h3
    go_enter Tryd.func10, Tryd.ntmps10
    go_wp2
    go_ret
    exact ⟨rfl, rfl⟩
  by_cases h4 : k = 4
  · subst h4
    go_enter Tryd.func10, Tryd.ntmps10
    go_wp2
    go_ret
    exact ⟨rfl, rfl⟩
  by_cases h5 : k = 5
  · subst h5
    go_enter Tryd.func10, Tryd.ntmps10
    go_wp2
    go_ret
    exact ⟨rfl, rfl⟩
  by_cases h6 : k = 6
  · subst h6
    go_enter Tryd.func10, Tryd.ntmps10
    go_wp2
    go_ret
    exact ⟨rfl, rfl⟩
  by_cases h7 : k = 7
  · subst h7
    go_enter Tryd.func10, Tryd.ntmps10
    go_wp2
    go_ret
    exact ⟨rfl, rfl⟩
  by_cases h8 : k = 8
  · subst h8
    go_enter Tryd.func10, Tryd.ntmps10
    go_wp2
    go_ret
    exact ⟨rfl, rfl⟩
  by_cases h9 : k = 9
  · subst h9
    go_enter Tryd.func10, Tryd.ntmps10
    go_wp2
    go_ret
    exact ⟨rfl, rfl⟩
  by_cases h10 : k = 10
  · subst h10
    go_enter Tryd.func10, Tryd.ntmps10
    go_wp2
    go_ret
    exact ⟨rfl, rfl⟩
  have d1 : (k == 1) = false := by rw [beq_eq_false_iff_ne]; exact h1
  have d2 : (k == 2) = false := by rw [beq_eq_false_iff_ne]; exact h2
  have d3 : (k == 3) = false := by rw [beq_eq_false_iff_ne]; exact h3
  have d4 : (k == 4) = false := by rw [beq_eq_false_iff_ne]; exact h4
  have d5 : (k == 5) = false := by rw [beq_eq_false_iff_ne]; exact h5
  have d6 : (k == 6) = false := by rw [beq_eq_false_iff_ne]; exact h6
  have d7 : (k == 7) = false := by rw [beq_eq_false_iff_ne]; exact h7
  have d8 : (k == 8) = false := by rw [beq_eq_false_iff_ne]; exact h8
  have d9 : (k == 9) = false := by rw [beq_eq_false_iff_ne]; exact h9
  have d10 : (k == 10) = false := by rw [beq_eq_false_iff_ne]; exact h10
  have hp : wordP k = [] := by unfold wordP; simp only [h1, h2, h3, h4, h5, h6, h7, h8, h9, h10, if_false]
  rw [hp]
  clear hp
  go_enter Tryd.func10, Tryd.ntmps10
  go_wp2
  go_ret
  exact ⟨rfl, rfl⟩
set_option maxRecDepth 100000 in
set_option maxHeartbeats 6400000 in
theorem letters_any (k : Int) (w : World) : Calls Tryd.prog 11 #[.int .u8 k] w fun e w' => e = .returned (.string (strOfNums (lettersP k))) ∧ w' = w := by
  by_cases h1 : k = 1
  · subst h1
    go_enter Tryd.func11, Tryd.ntmps11
    go_wp2
    go_ret
    exact ⟨rfl, rfl⟩
  by_cases h2 : k = 2
  · subst h2
    go_enter Tryd.func11, Tryd.ntmps11
    go_wp2
    go_ret
    exact ⟨rfl, rfl⟩
  by_cases h8 : k = 8
  · subst h8
    go_enter Tryd.func11, Tryd.ntmps11
    go_wp2
    go_ret
    exact ⟨rfl, rfl⟩
  by_cases h6 : k = 6
  · subst h6
    go_enter Tryd.func11, Tryd.ntmps11
    go_wp2
    go_ret
    exact ⟨rfl, rfl⟩
  by_cases h7 : k = 7
  · subst h7
    go_enter Tryd.func11, Tryd.ntmps11
    go_wp2
    go_ret
    exact ⟨rfl, rfl⟩
  have d1 : (k == 1) = false := by rw [beq_eq_false_iff_ne]; exact h1
  have d2 : (k == 2) = false := by rw [beq_eq_false_iff_ne]; exact h2
  have d8 : (k == 8) = false := by rw [beq_eq_false_iff_ne]; exact h8
  have d6 : (k == 6) = false := by rw [beq_eq_false_iff_ne]; exact h6
  have d7 : (k == 7) = false := by rw [beq_eq_false_iff_ne]; exact h7
  have hp : lettersP k = [] := by unfold lettersP; simp only [h1, h2, h8, h6, h7, if_false]
  rw [hp]
  clear hp
  go_enter Tryd.func11, Tryd.ntmps11
  go_wp2
  go_ret
  exact ⟨rfl, rfl⟩
end Go.Proofs.YtpdlibegjkbknaaDoor.Tz

namespace Go.Proofs.YtpdlibegjkbknaaDoor.Tz
open Go.Proofs
open Go.ChangeShapes Go.WideShapes Go.ChangeAt Go.RowKit Go.Proofs.YtpdlibegjkbknaaDoor.Kit Go.Proofs.YtpdlibegjkbknaaDoor.Tx Go.Proofs.YtpdlibegjkbknaaDoor.Ty

def DataV (w : World) (v : Value) (xs : List Int) : Prop := ∃ A c, v = .slice A xs.length c ∧ Holds w w.heap.size .u8 A xs
/-- What an act's numbers may be. -/
def OkA (a : ActV) : Prop := (0 ≤ a.k ∧ a.k ≤ 255) ∧ (0 ≤ a.m ∧ a.m ≤ 255) ∧ (0 ≤ a.p ∧ a.p ≤ 2147483647) ∧ (0 ≤ a.n ∧ a.n ≤ 2147483647) ∧ (0 ≤ a.v ∧ a.v ≤ 2147483647) ∧ Octets a.d ∧ a.d.length ≤ 100000
def actC (a : ActV) (v : Value) : Array Value := #[.int .u8 a.k, .int .u8 a.m, .int .i64 a.p, .int .i64 a.n, .int .u64 a.v, v]
def MidL (w wr : World) (a : ActV) (j : Nat) (l : List Int) (r : ActV) (v : Value) : Prop :=
  ((lettersP a.k).take j).foldl stepP (wordP a.k, a) = (l, r) ∧ Block wr w.heap.size 25 (actC r v) ∧ DataV w v r.d ∧ (∀ i, i < (lettersP a.k).length → wr.cell? ⟨w.heap.size + 1, i, none⟩ = some (.int .u8 ((lettersP a.k).getD i 0))) ∧ Below w.heap.size w wr ∧ w.heap.size + 2 ≤ wr.heap.size ∧ OkA r ∧ l.length ≤ 6 + j * 200020
theorem hexL_length (xs : List Int) (h : xs.length ≤ 100000) : (hexL xs).length ≤ 200000 := by
  unfold hexL
  split
  · simp
  · rw [flat_length]; omega
theorem text_length {r : ActV} (h : OkA r) (f : Int) : (textA r f).length ≤ 200000 := by
  obtain ⟨_, h1, h2, h3, h4, _, h6⟩ := h
  unfold textA
  split
  · exact Nat.le_trans (decL_length _ (by omega)) (by omega)
  split
  · exact Nat.le_trans (decL_length _ (by omega)) (by omega)
  split
  · exact hexL_length _ h6
  split
  · exact Nat.le_trans (decL_length _ (by omega)) (by omega)
  · exact Nat.le_trans (decL_length _ (by omega)) (by omega)
theorem OkA.clear {r : ActV} (h : OkA r) (f : Int) : OkA (clearA r f) := by
  obtain ⟨h0, h1, h2, h3, h4, h5, h6⟩ := h
  unfold clearA OkA
  split
  · exact ⟨h0, ⟨Int.le_refl _, (show (0 : Int) ≤ 255 by decide)⟩, h2, h3, h4, h5, h6⟩
  split
  · exact ⟨h0, h1, h2, h3, ⟨Int.le_refl _, (show (0 : Int) ≤ 2147483647 by decide)⟩, h5, h6⟩
  split
  · exact ⟨h0, h1, h2, h3, h4, (fun x hx => by simp at hx), by simp⟩
  split
  · exact ⟨h0, h1, ⟨Int.le_refl _, (show (0 : Int) ≤ 2147483647 by decide)⟩, h3, h4, h5, h6⟩
  · exact ⟨h0, h1, h2, ⟨Int.le_refl _, (show (0 : Int) ≤ 2147483647 by decide)⟩, h4, h5, h6⟩
theorem MidL.next {w wr w' : World} {a : ActV} {j : Nat} {l : List Int} {r : ActV} {v v' : Value} (h : MidL w wr a j l r v) (hj : j < (lettersP a.k).length) (f : Int) (hf : (lettersP a.k).getD j 0 = f)
    (hb : Block w' w.heap.size 25 (actC (clearA r f) v')) (hd : DataV w v' (clearA r f).d) (hB : Below w.heap.size w w') (hs : wr.heap.size ≤ w'.heap.size)
    (hc : ∀ i, w'.cell? ⟨w.heap.size + 1, i, none⟩ = wr.cell? ⟨w.heap.size + 1, i, none⟩) : MidL w w' a (j + 1) (l ++ 32 :: textA r f) (clearA r f) v' := by
  obtain ⟨h1, _, _, h4, _, h6, h7, h8⟩ := h
  refine ⟨?_, hb, hd, (fun i hi => (hc i).trans (h4 i hi)), hB, Nat.le_trans h6 hs, h7.clear f, ?_⟩
  · rw [List.take_succ_eq_append_getElem hj, List.foldl_append, h1]
    rw [List.getD_eq_getElem?_getD, List.getElem?_eq_getElem hj] at hf
    have hf' : (lettersP a.k)[j] = f := hf
    rw [hf']
    rfl
  · have := text_length h7 f
    rw [List.length_append, List.length_cons]
    omega
def LineTo (a : ActV) (w : World) (e : Ending) (w' : World) : Prop :=
  Below w.heap.size w w' ∧ match lineP a with
  | none => e = .returned (.tuple #[.string ⟨#[]⟩, .bool false])
  | some l => e = .returned (.tuple #[.string (strOfNums l), .bool true])
theorem str_empty : ((⟨#[]⟩ : ByteArray).toList == []) = true := by rw [ByteArray.toList_eq]; rfl

set_option maxRecDepth 100000 in
set_option maxHeartbeats 12800000 in
theorem line_any (a : ActV) (v : Value) (w : World) (hk : 0 ≤ a.k ∧ a.k ≤ 255) (hm : 0 ≤ a.m ∧ a.m ≤ 255) (hv : 0 ≤ a.v) (ho : Octets a.d) (hl : a.d.length ≤ 100000) (hd : DataV w v a.d) (ht : Tab w) :
    Calls Tryd.prog 6 #[actV a v] w (LineTo a w) := by
  have HTAB := Lib.hid (fun W (hW : Below w.heap.size w W) => ht.below hW)
  have b0 := Block.new w 25 (actC a v)
  have hB0 := (Below.refl w.heap.size w).alloc (Nat.le_refl _) (.cells (actC a v) 25)
  have hs0 : (w.alloc (.cells (actC a v) 25)).heap.size = w.heap.size + 1 := by simp
  obtain ⟨W1, hW1⟩ : ∃ W1, (w.alloc (.cells (actC a v) 25)) = W1 := ⟨_, rfl⟩
  rw [hW1] at b0 hB0 hs0
  have HW1 := Lib.hid hW1
  have HB0 := Lib.hid b0
  have HBB0 := Lib.hid hB0
  have HS0 := Lib.hid hs0
  have HD := Lib.hid hd
  have x0 := b0.cell 0
  have x1 := b0.cell 1
  have x2 := b0.cell 2
  have x3 := b0.cell 3
  have x4 := b0.cell 4
  have x5 := b0.cell 5
  unfold actC at x0 x1 x2 x3 x4 x5
  simp only [List.getElem?_toArray, List.getElem?_cons_zero, List.getElem?_cons_succ] at x0 x1 x2 x3 x4 x5
  have HHO := Lib.hid ho
  unfold actV
  clear hW1 b0 hB0 hs0 hd ht ho
  go_enter Tryd.func6, Tryd.ntmps6
  have GWD := Lib.hid (word_any a.k W1)
  go_wp2_with fail
  rw [show (#[.int .u8 a.k, .int .u8 a.m, .int .i64 a.p, .int .i64 a.n, .int .u64 a.v, v] : Array Value) = actC a v from rfl, HW1.out]
  refine GWD.out.mono ?_
  rintro e w2 ⟨rfl, hw2⟩
  have hw2' := hw2.symm
  clear hw2
  subst hw2'
  by_cases hw0 : wordP a.k = []
  · have HL := Lib.hid (show lineP a = none by unfold lineP; rw [if_pos (Or.inl hw0)])
    rw [hw0, show strOfNums [] = ⟨#[]⟩ from rfl]
    have s0 := str_empty
    go_wp2_with fail
    go_ret2
    unfold LineTo
    rw [HL.out]
    exact ⟨HBB0.out, rfl⟩
  have hws : (strOfNums (wordP a.k)).size ≠ 0 := by
    rw [strOfNums_size]
    intro h
    exact hw0 (List.eq_nil_of_length_eq_zero h)
  obtain ⟨e0, e1⟩ := str_ne hws
  obtain ⟨sw, hsw⟩ : ∃ sw, strOfNums (wordP a.k) = sw := ⟨_, rfl⟩
  rw [hsw] at e0 e1 ⊢
  have HSW := Lib.hid hsw
  clear hws hsw
  by_cases c0 : a.p < 0
  · have HL := Lib.hid (show lineP a = none by unfold lineP; rw [if_pos (Or.inr (show inA a = false by unfold inA; simp; omega))])
    have q0 : decide (a.p < 0) = true := decide_eq_true c0
    go_wp2_with fail
    go_ret2
    unfold LineTo
    rw [HL.out]
    exact ⟨HBB0.out, rfl⟩
  have q0 : decide (a.p < 0) = false := decide_eq_false c0
  by_cases c1 : 2147483647 < a.p
  · have HL := Lib.hid (show lineP a = none by unfold lineP; rw [if_pos (Or.inr (show inA a = false by unfold inA; simp; omega))])
    have q1 : decide (2147483647 < a.p) = true := decide_eq_true c1
    go_wp2_with fail
    go_ret2
    unfold LineTo
    rw [HL.out]
    exact ⟨HBB0.out, rfl⟩
  have q1 : decide (2147483647 < a.p) = false := decide_eq_false c1
  by_cases c2 : a.n < 0
  · have HL := Lib.hid (show lineP a = none by unfold lineP; rw [if_pos (Or.inr (show inA a = false by unfold inA; simp; omega))])
    have q2 : decide (a.n < 0) = true := decide_eq_true c2
    go_wp2_with fail
    go_ret2
    unfold LineTo
    rw [HL.out]
    exact ⟨HBB0.out, rfl⟩
  have q2 : decide (a.n < 0) = false := decide_eq_false c2
  by_cases c3 : 2147483647 < a.n
  · have HL := Lib.hid (show lineP a = none by unfold lineP; rw [if_pos (Or.inr (show inA a = false by unfold inA; simp; omega))])
    have q3 : decide (2147483647 < a.n) = true := decide_eq_true c3
    go_wp2_with fail
    go_ret2
    unfold LineTo
    rw [HL.out]
    exact ⟨HBB0.out, rfl⟩
  have q3 : decide (2147483647 < a.n) = false := decide_eq_false c3
  by_cases c4 : 2147483647 < a.v
  · have HL := Lib.hid (show lineP a = none by unfold lineP; rw [if_pos (Or.inr (show inA a = false by unfold inA; simp; omega))])
    have q4 : decide (2147483647 < a.v) = true := decide_eq_true c4
    go_wp2_with fail
    go_ret2
    unfold LineTo
    rw [HL.out]
    exact ⟨HBB0.out, rfl⟩
  have q4 : decide (2147483647 < a.v) = false := decide_eq_false c4
  have HLINE := Lib.hid (show lineP a = if bareA (sumP a).2 = true then some (sumP a).1 else none by
    unfold lineP
    rw [if_neg (fun h => h.elim hw0 fun h2 => by unfold inA at h2; simp at h2; omega)])
  have hOK : OkA a := ⟨hk, hm, ⟨by omega, by omega⟩, ⟨by omega, by omega⟩, ⟨hv, by omega⟩, HHO.out, hl⟩
  have HOKA := Lib.hid hOK
  have GLT := Lib.hid (letters_any a.k W1)
  obtain ⟨sf, hsf⟩ : ∃ sf, strOfNums (lettersP a.k) = sf := ⟨_, rfl⟩
  have hnf : sf.size = (lettersP a.k).length := by rw [← hsf, strOfNums_size]
  have kc := Lib.run_convert_string_bytes (P := Tryd.prog) W1 9 23 5 sf Tryd.underlying9 Tryd.underlying23 Tryd.underlying5
  have hb3 := Lib.bytesWorld_below W1 5 sf
  have hs3 := Lib.bytesWorld_size W1 5 sf
  have hc3 := Lib.bytesWorld_cell W1 5 sf
  obtain ⟨W3, hW3⟩ : ∃ W3, Lib.bytesWorld W1 5 sf = W3 := ⟨_, rfl⟩
  obtain ⟨cL, hcL⟩ : ∃ cL, grownCap W1 sf.size 0 5 = cL := ⟨_, rfl⟩
  rw [hW3] at kc hb3 hs3 hc3
  rw [hcL, HS0.out] at kc
  rw [HS0.out] at hs3
  have HB3 := Lib.hid (HB0.out.below hb3 (by rw [HS0.out]; omega))
  have HBB3 := Lib.hid (HBB0.out.trans (hb3.mono HBB0.out.size))
  have HROW := Lib.hid (show ∀ i, i < (lettersP a.k).length → W3.cell? ⟨w.heap.size + 1, i, none⟩ = some (.int .u8 ((lettersP a.k).getD i 0)) by
    intro i hi
    have h := hc3 i (by rw [hnf]; exact hi)
    rw [HS0.out] at h
    have hq : lettersP a.k = numsOf sf := by rw [← hsf, nums_str (letters_octets _)]
    rw [h, hq]
    unfold numsOf
    rw [List.getD_eq_getElem?_getD, List.getD_eq_getElem?_getD, List.getElem?_map]
    cases sf.data.toList[i]? <;> rfl)
  have HS3 := Lib.hid hs3
  have HNL := Lib.hid hnf
  rw [hnf] at kc
  obtain ⟨nL, hnL⟩ : ∃ nL, (lettersP a.k).length = nL := ⟨_, rfl⟩
  have HNN := Lib.hid hnL
  have h3L : nL ≤ 3 := by rw [← hnL]; exact letters_length _
  rw [hnL] at kc
  rw [hsf] at GLT
  have y0 := HB3.out.cell 0
  have y1 := HB3.out.cell 1
  have y2 := HB3.out.cell 2
  have y3 := HB3.out.cell 3
  have y4 := HB3.out.cell 4
  have y5 := HB3.out.cell 5
  unfold actC at y0 y1 y2 y3 y4 y5
  simp only [List.getElem?_toArray, List.getElem?_cons_zero, List.getElem?_cons_succ] at y0 y1 y2 y3 y4 y5
  clear hb3 hs3 hc3 hW3 hcL hnf hnL hsf hOK
  go_wp2_with fail
  refine GLT.out.mono ?_
  rintro e w2 ⟨rfl, hw2⟩
  have hw2' := hw2.symm
  clear hw2
  subst hw2'
  go_wp2_with fail
  clear kc x0 x1 x2 x3 x4 x5 y0 y1 y2 y3 y4 y5
  go_loopw [4, 42] (fun t s wr => ∃ (j : Nat) (l : List Int) (r : ActV) (v' : Value), j ≤ nL ∧ s = .int .i64 j ∧ t = .string (strOfNums l) ∧ MidL w wr a j l r v') (fun _ s _ => nL - (intOf s).toNat)
  case atStart =>
    exact ⟨0, wordP a.k, a, v, Nat.zero_le _, rfl, by rw [HSW.out], rfl, HB3.out, HD.out, HROW.out, HBB3.out, by rw [HS3.out]; exact Nat.le_refl _, HOKA.out, word_length _⟩
  case round =>
    obtain ⟨j, l, r, v', hj, rfl, rfl, hM⟩ := hrel
    have HM := Lib.hid hM
    obtain ⟨hsum, hbk, ⟨A, c, rfl, hr⟩, hrow, hbel, hsz, hok, hll⟩ := hM
    have HBK := Lib.hid hbk
    have HBEL := Lib.hid hbel
    have HROWR := Lib.hid hrow
    have HRR := Lib.hid hr
    have z0 := hbk.cell 0
    have z1 := hbk.cell 1
    have z2 := hbk.cell 2
    have z3 := hbk.cell 3
    have z4 := hbk.cell 4
    have z5 := hbk.cell 5
    unfold actC at z0 z1 z2 z3 z4 z5
    simp only [List.getElem?_toArray, List.getElem?_cons_zero, List.getElem?_cons_succ] at z0 z1 z2 z3 z4 z5
    have HTW := Lib.hid (HTAB.out wr hbel)
    obtain ⟨k, m, p, n, u, d⟩ := r
    have HOK := Lib.hid hok
    obtain ⟨_, hm', hp', hn', hu', hod, hdl⟩ := hok
    simp only at z0 z1 z2 z3 z4 z5 hm' hp' hn' hu' hod hdl
    obtain ⟨m, rfl⟩ : ∃ m' : Nat, m = m' := ⟨m.toNat, by omega⟩
    obtain ⟨p, rfl⟩ : ∃ m' : Nat, p = m' := ⟨p.toNat, by omega⟩
    obtain ⟨n, rfl⟩ : ∃ m' : Nat, n = m' := ⟨n.toNat, by omega⟩
    obtain ⟨u, rfl⟩ : ∃ m' : Nat, u = m' := ⟨u.toNat, by omega⟩
    by_cases hlt : j < nL
    · have dj : decide ((j : Int) < (nL : Int)) = true := decide_eq_true (by omega)
      have dj2 : decide (j < nL) = true := decide_eq_true hlt
      have cx := hrow j (by rw [HNN.out]; exact hlt)
      have hmem := letters_mem a.k ((lettersP a.k).getD j 0) (by rw [List.getD_eq_getElem?_getD, List.getElem?_eq_getElem (by rw [HNN.out]; exact hlt)]; exact List.getElem_mem _)
      have HJ := Lib.hid (show j < (lettersP a.k).length by rw [HNN.out]; exact hlt)
      obtain ⟨f, hf⟩ : ∃ f, (lettersP a.k).getD j 0 = f := ⟨_, rfl⟩
      rw [hf] at cx hmem
      have HFF := Lib.hid hf
      have hD : Below wr.heap.size wr wr.drew := (Below.refl _ _).drew
      have HSTEP := Lib.hid (fun (f' : Int) (w' : World) (v2 : Value) (hf' : f = f') (h : MidL w wr a j l ⟨k, m, p, n, u, d⟩ (.slice A d.length c)) hb hd hB hs hc => MidL.next (w' := w') (v' := v2) h HJ.out f' (HFF.out.trans hf') hb hd hB hs hc)
      have a2 := fun (T : List Int) (hT : T.length ≤ 200000) W => add_str (P := Tryd.prog) l (32 :: T) (by rw [List.length_cons]; omega) W
      have a1 := fun (T : List Int) (hT : T.length ≤ 200000) W => add_str (P := Tryd.prog) [32] T (by simp only [List.length_cons, List.length_nil]; omega) W
      obtain ⟨t0, ht0⟩ : ∃ t, strOfNums l = t := ⟨_, rfl⟩
      rw [ht0] at a2 ⊢
      have HA1 := Lib.hid a1
      have HA2 := Lib.hid a2
      have hls : l.length ≤ 606066 := by omega
      clear hsum hbk hr hrow hbel hf ht0 a1 a2 hD HNN HNL
      rcases hmem with rfl | rfl | rfl | rfl | rfl
      · have hT : (decL m).length ≤ 200000 := Nat.le_trans (decL_length _ (by omega)) (by omega)
        have A1 := HA1.out _ hT
        have A2 := HA2.out _ hT
        obtain ⟨t1, h1⟩ : ∃ t, strOfNums (decL m) = t := ⟨_, rfl⟩
        obtain ⟨t2, h2⟩ : ∃ t, strOfNums (32 :: decL m) = t := ⟨_, rfl⟩
        obtain ⟨t3, h3⟩ : ∃ t, strOfNums (l ++ 32 :: decL m) = t := ⟨_, rfl⟩
        rw [h1, show strOfNums [32] = ⟨#[32]⟩ from rfl, show [32] ++ decL m = 32 :: decL m from rfl, h2] at A1
        rw [h2, h3] at A2
        have H3 := Lib.hid h3
        have GT := Lib.hid (fun W (hW : Below wr.heap.size wr W) => itoa_any m (by omega) W (HTW.out.below hW))
        rw [h1] at GT
        have hw5 : IntKind.i64.wrap (m : Int) = (m : Int) := by rw [IntKind.wrap_i64]; omega
        clear h1 h2 h3 hT
        go_wp2_with fail
        refine (GT.out _ (Below.refl _ _)).mono ?_
        rintro e w5 ⟨rfl, hb5⟩
        have bk5 := HBK.out.below hb5 (by omega)
        have g0 := bk5.cell 0
        have g1 := bk5.cell 1
        have g2 := bk5.cell 2
        have g3 := bk5.cell 3
        have g4 := bk5.cell 4
        have g5 := bk5.cell 5
        unfold actC at g0 g1 g2 g3 g4 g5
        simp only [List.getElem?_toArray, List.getElem?_cons_zero, List.getElem?_cons_succ] at g0 g1 g2 g3 g4 g5
        have gf := fun i => bk5.frozen i
        have HBK5 := Lib.hid bk5
        have HB5 := Lib.hid hb5
        clear bk5 hb5
        go_wp2_with fail
        go_roundw
        case rel =>
          refine ⟨j + 1, _, _, (.slice A d.length c), hlt, by go_num, by rw [← H3.out]; rfl, HSTEP.out 77 _ _ rfl HM.out (HBK5.out.set_ 1 _) ⟨A, c, rfl, HRR.out⟩ ((HBEL.out.trans (HB5.out.mono HBEL.out.size)).setCell (p := ⟨w.heap.size, 1, none⟩) (Nat.le_refl _) _) ?_ ?_⟩
          · have := HB5.out.size; simpa using this
          · intro i
            rw [World.cell?_setCell_other _ _ _ _ (by simp)]
            exact HB5.out.cell (p := ⟨w.heap.size + 1, i, none⟩) (show w.heap.size + 1 < wr.heap.size by omega)
        case measure => simp [intOf] <;> omega
      · have hT : (decL u).length ≤ 200000 := Nat.le_trans (decL_length _ (by omega)) (by omega)
        have A1 := HA1.out _ hT
        have A2 := HA2.out _ hT
        obtain ⟨t1, h1⟩ : ∃ t, strOfNums (decL u) = t := ⟨_, rfl⟩
        obtain ⟨t2, h2⟩ : ∃ t, strOfNums (32 :: decL u) = t := ⟨_, rfl⟩
        obtain ⟨t3, h3⟩ : ∃ t, strOfNums (l ++ 32 :: decL u) = t := ⟨_, rfl⟩
        rw [h1, show strOfNums [32] = ⟨#[32]⟩ from rfl, show [32] ++ decL u = 32 :: decL u from rfl, h2] at A1
        rw [h2, h3] at A2
        have H3 := Lib.hid h3
        have GT := Lib.hid (fun W (hW : Below wr.heap.size wr W) => formatU_any u (by omega) W (HTW.out.below hW))
        rw [h1] at GT
        clear h1 h2 h3 hT
        go_wp2_with fail
        refine (GT.out _ (Below.refl _ _)).mono ?_
        rintro e w5 ⟨rfl, hb5⟩
        have bk5 := HBK.out.below hb5 (by omega)
        have g0 := bk5.cell 0
        have g1 := bk5.cell 1
        have g2 := bk5.cell 2
        have g3 := bk5.cell 3
        have g4 := bk5.cell 4
        have g5 := bk5.cell 5
        unfold actC at g0 g1 g2 g3 g4 g5
        simp only [List.getElem?_toArray, List.getElem?_cons_zero, List.getElem?_cons_succ] at g0 g1 g2 g3 g4 g5
        have gf := fun i => bk5.frozen i
        have HBK5 := Lib.hid bk5
        have HB5 := Lib.hid hb5
        clear bk5 hb5
        go_wp2_with fail
        go_roundw
        case rel =>
          refine ⟨j + 1, _, _, (.slice A d.length c), hlt, by go_num, by rw [← H3.out]; rfl, HSTEP.out 86 _ _ rfl HM.out (HBK5.out.set_ 4 _) ⟨A, c, rfl, HRR.out⟩ ((HBEL.out.trans (HB5.out.mono HBEL.out.size)).setCell (p := ⟨w.heap.size, 4, none⟩) (Nat.le_refl _) _) ?_ ?_⟩
          · have := HB5.out.size; simpa using this
          · intro i
            rw [World.cell?_setCell_other _ _ _ _ (by simp)]
            exact HB5.out.cell (p := ⟨w.heap.size + 1, i, none⟩) (show w.heap.size + 1 < wr.heap.size by omega)
        case measure => simp [intOf] <;> omega
      · have hT : (hexL d).length ≤ 200000 := hexL_length _ hdl
        have A1 := HA1.out _ hT
        have A2 := HA2.out _ hT
        obtain ⟨t1, h1⟩ : ∃ t, strOfNums (hexL d) = t := ⟨_, rfl⟩
        obtain ⟨t2, h2⟩ : ∃ t, strOfNums (32 :: hexL d) = t := ⟨_, rfl⟩
        obtain ⟨t3, h3⟩ : ∃ t, strOfNums (l ++ 32 :: hexL d) = t := ⟨_, rfl⟩
        rw [h1, show strOfNums [32] = ⟨#[32]⟩ from rfl, show [32] ++ hexL d = 32 :: hexL d from rfl, h2] at A1
        rw [h2, h3] at A2
        have H3 := Lib.hid h3
        have GT := Lib.hid (fun W (hW : Below wr.heap.size wr W) => hex_any A d c W hdl hod ((((HRR.out.below HBEL.out).more HBEL.out.size).below hW).more hW.size))
        rw [h1] at GT
        clear h1 h2 h3 hT
        go_wp2_with fail
        refine (GT.out _ (Below.refl _ _)).mono ?_
        rintro e w5 ⟨rfl, hb5⟩
        have bk5 := HBK.out.below hb5 (by omega)
        have g0 := bk5.cell 0
        have g1 := bk5.cell 1
        have g2 := bk5.cell 2
        have g3 := bk5.cell 3
        have g4 := bk5.cell 4
        have g5 := bk5.cell 5
        unfold actC at g0 g1 g2 g3 g4 g5
        simp only [List.getElem?_toArray, List.getElem?_cons_zero, List.getElem?_cons_succ] at g0 g1 g2 g3 g4 g5
        have gf := fun i => bk5.frozen i
        have HBK5 := Lib.hid bk5
        have HB5 := Lib.hid hb5
        clear bk5 hb5
        go_wp2_with fail
        go_roundw
        case rel =>
          refine ⟨j + 1, _, _, (.slice none 0 0), hlt, by go_num, by rw [← H3.out]; rfl, HSTEP.out 84 _ _ rfl HM.out (HBK5.out.set_ 5 _) ⟨none, 0, rfl, Holds.nil⟩ ((HBEL.out.trans (HB5.out.mono HBEL.out.size)).setCell (p := ⟨w.heap.size, 5, none⟩) (Nat.le_refl _) _) ?_ ?_⟩
          · have := HB5.out.size; simpa using this
          · intro i
            rw [World.cell?_setCell_other _ _ _ _ (by simp)]
            exact HB5.out.cell (p := ⟨w.heap.size + 1, i, none⟩) (show w.heap.size + 1 < wr.heap.size by omega)
        case measure => simp [intOf] <;> omega
      · have hT : (decL p).length ≤ 200000 := Nat.le_trans (decL_length _ (by omega)) (by omega)
        have A1 := HA1.out _ hT
        have A2 := HA2.out _ hT
        obtain ⟨t1, h1⟩ : ∃ t, strOfNums (decL p) = t := ⟨_, rfl⟩
        obtain ⟨t2, h2⟩ : ∃ t, strOfNums (32 :: decL p) = t := ⟨_, rfl⟩
        obtain ⟨t3, h3⟩ : ∃ t, strOfNums (l ++ 32 :: decL p) = t := ⟨_, rfl⟩
        rw [h1, show strOfNums [32] = ⟨#[32]⟩ from rfl, show [32] ++ decL p = 32 :: decL p from rfl, h2] at A1
        rw [h2, h3] at A2
        have H3 := Lib.hid h3
        have GT := Lib.hid (fun W (hW : Below wr.heap.size wr W) => itoa_any p (by omega) W (HTW.out.below hW))
        rw [h1] at GT
        clear h1 h2 h3 hT
        go_wp2_with fail
        refine (GT.out _ (Below.refl _ _)).mono ?_
        rintro e w5 ⟨rfl, hb5⟩
        have bk5 := HBK.out.below hb5 (by omega)
        have g0 := bk5.cell 0
        have g1 := bk5.cell 1
        have g2 := bk5.cell 2
        have g3 := bk5.cell 3
        have g4 := bk5.cell 4
        have g5 := bk5.cell 5
        unfold actC at g0 g1 g2 g3 g4 g5
        simp only [List.getElem?_toArray, List.getElem?_cons_zero, List.getElem?_cons_succ] at g0 g1 g2 g3 g4 g5
        have gf := fun i => bk5.frozen i
        have HBK5 := Lib.hid bk5
        have HB5 := Lib.hid hb5
        clear bk5 hb5
        go_wp2_with fail
        go_roundw
        case rel =>
          refine ⟨j + 1, _, _, (.slice A d.length c), hlt, by go_num, by rw [← H3.out]; rfl, HSTEP.out 80 _ _ rfl HM.out (HBK5.out.set_ 2 _) ⟨A, c, rfl, HRR.out⟩ ((HBEL.out.trans (HB5.out.mono HBEL.out.size)).setCell (p := ⟨w.heap.size, 2, none⟩) (Nat.le_refl _) _) ?_ ?_⟩
          · have := HB5.out.size; simpa using this
          · intro i
            rw [World.cell?_setCell_other _ _ _ _ (by simp)]
            exact HB5.out.cell (p := ⟨w.heap.size + 1, i, none⟩) (show w.heap.size + 1 < wr.heap.size by omega)
        case measure => simp [intOf] <;> omega
      · have hT : (decL n).length ≤ 200000 := Nat.le_trans (decL_length _ (by omega)) (by omega)
        have A1 := HA1.out _ hT
        have A2 := HA2.out _ hT
        obtain ⟨t1, h1⟩ : ∃ t, strOfNums (decL n) = t := ⟨_, rfl⟩
        obtain ⟨t2, h2⟩ : ∃ t, strOfNums (32 :: decL n) = t := ⟨_, rfl⟩
        obtain ⟨t3, h3⟩ : ∃ t, strOfNums (l ++ 32 :: decL n) = t := ⟨_, rfl⟩
        rw [h1, show strOfNums [32] = ⟨#[32]⟩ from rfl, show [32] ++ decL n = 32 :: decL n from rfl, h2] at A1
        rw [h2, h3] at A2
        have H3 := Lib.hid h3
        have GT := Lib.hid (fun W (hW : Below wr.heap.size wr W) => itoa_any n (by omega) W (HTW.out.below hW))
        rw [h1] at GT
        clear h1 h2 h3 hT
        go_wp2_with fail
        refine (GT.out _ (Below.refl _ _)).mono ?_
        rintro e w5 ⟨rfl, hb5⟩
        have bk5 := HBK.out.below hb5 (by omega)
        have g0 := bk5.cell 0
        have g1 := bk5.cell 1
        have g2 := bk5.cell 2
        have g3 := bk5.cell 3
        have g4 := bk5.cell 4
        have g5 := bk5.cell 5
        unfold actC at g0 g1 g2 g3 g4 g5
        simp only [List.getElem?_toArray, List.getElem?_cons_zero, List.getElem?_cons_succ] at g0 g1 g2 g3 g4 g5
        have gf := fun i => bk5.frozen i
        have HBK5 := Lib.hid bk5
        have HB5 := Lib.hid hb5
        clear bk5 hb5
        go_wp2_with fail
        go_roundw
        case rel =>
          refine ⟨j + 1, _, _, (.slice A d.length c), hlt, by go_num, by rw [← H3.out]; rfl, HSTEP.out 78 _ _ rfl HM.out (HBK5.out.set_ 3 _) ⟨A, c, rfl, HRR.out⟩ ((HBEL.out.trans (HB5.out.mono HBEL.out.size)).setCell (p := ⟨w.heap.size, 3, none⟩) (Nat.le_refl _) _) ?_ ?_⟩
          · have := HB5.out.size; simpa using this
          · intro i
            rw [World.cell?_setCell_other _ _ _ _ (by simp)]
            exact HB5.out.cell (p := ⟨w.heap.size + 1, i, none⟩) (show w.heap.size + 1 < wr.heap.size by omega)
        case measure => simp [intOf] <;> omega
    · obtain rfl : j = nL := by omega
      have dj : decide ((j : Int) < (j : Int)) = false := decide_eq_false (by omega)
      have dj2 : decide (j < j) = false := decide_eq_false (by omega)
      have HSUM := Lib.hid (show sumP a = (l, ⟨k, m, p, n, u, d⟩) by
        unfold sumP
        rw [← hsum, List.take_of_length_le (by rw [HNN.out]; exact Nat.le_refl _)])
      clear hsum hbk hr hrow hbel
      by_cases z0' : m = 0
      case neg =>
        have n0 : (((m : Nat) : Int) == 0) = false := by rw [beq_eq_false_iff_ne]; omega
        have n1 : ((m : Nat) == 0) = false := by rw [beq_eq_false_iff_ne]; omega
        have HL := Lib.hid (show lineP a = none by rw [HLINE.out, HSUM.out, if_neg]; unfold bareA; simp only [Bool.and_eq_true, decide_eq_true_eq]; omega)
        go_wp2_with fail
        go_ret2
        unfold LineTo
        rw [HL.out]
        exact ⟨HBEL.out, rfl⟩
      obtain rfl := z0'
      by_cases z1' : u = 0
      case neg =>
        have n0 : (((u : Nat) : Int) == 0) = false := by rw [beq_eq_false_iff_ne]; omega
        have n1 : ((u : Nat) == 0) = false := by rw [beq_eq_false_iff_ne]; omega
        have HL := Lib.hid (show lineP a = none by rw [HLINE.out, HSUM.out, if_neg]; unfold bareA; simp only [Bool.and_eq_true, decide_eq_true_eq]; omega)
        go_wp2_with fail
        go_ret2
        unfold LineTo
        rw [HL.out]
        exact ⟨HBEL.out, rfl⟩
      obtain rfl := z1'
      by_cases z2' : d.length = 0
      case neg =>
        have n0 : (((d.length : Nat) : Int) == 0) = false := by rw [beq_eq_false_iff_ne]; omega
        have n1 : ((d.length : Nat) == 0) = false := by rw [beq_eq_false_iff_ne]; omega
        have HL := Lib.hid (show lineP a = none by rw [HLINE.out, HSUM.out, if_neg]; unfold bareA; simp only [Bool.and_eq_true, decide_eq_true_eq]; omega)
        go_wp2_with fail
        go_ret2
        unfold LineTo
        rw [HL.out]
        exact ⟨HBEL.out, rfl⟩
      obtain rfl : d = [] := List.eq_nil_of_length_eq_zero z2'
      by_cases z3' : p = 0
      case neg =>
        have n0 : (((p : Nat) : Int) == 0) = false := by rw [beq_eq_false_iff_ne]; omega
        have n1 : ((p : Nat) == 0) = false := by rw [beq_eq_false_iff_ne]; omega
        have HL := Lib.hid (show lineP a = none by rw [HLINE.out, HSUM.out, if_neg]; unfold bareA; simp only [Bool.and_eq_true, decide_eq_true_eq]; omega)
        go_wp2_with fail
        go_ret2
        unfold LineTo
        rw [HL.out]
        exact ⟨HBEL.out, rfl⟩
      obtain rfl := z3'
      by_cases z4' : n = 0
      case neg =>
        have n0 : (((n : Nat) : Int) == 0) = false := by rw [beq_eq_false_iff_ne]; omega
        have n1 : ((n : Nat) == 0) = false := by rw [beq_eq_false_iff_ne]; omega
        have HL := Lib.hid (show lineP a = none by rw [HLINE.out, HSUM.out, if_neg]; unfold bareA; simp only [Bool.and_eq_true, decide_eq_true_eq]; omega)
        go_wp2_with fail
        go_ret2
        unfold LineTo
        rw [HL.out]
        exact ⟨HBEL.out, rfl⟩
      obtain rfl := z4'
      have HL := Lib.hid (show lineP a = some l by rw [HLINE.out, HSUM.out, if_pos]; rfl)
      go_wp2_with fail
      go_ret2
      unfold LineTo
      rw [HL.out]
      exact ⟨HBEL.out, rfl⟩
end Go.Proofs.YtpdlibegjkbknaaDoor.Tz

namespace Go.Proofs.YtpdlibegjkbknaaDoor.Tz
open Go.Proofs
open Go.ChangeShapes Go.WideShapes Go.ChangeAt Go.RowKit Go.Proofs.YtpdlibegjkbknaaDoor.Kit Go.Proofs.YtpdlibegjkbknaaDoor.Tx Go.Proofs.YtpdlibegjkbknaaDoor.Ty

theorem decL_eq (n : Nat) : decL n = if n < 10 then [48 + (n : Int)] else decL (n / 10) ++ [48 + ((n % 10 : Nat) : Int)] := by
  unfold decL
  rw [Lib.decDigits]
  by_cases h : n < 10
  · rw [dif_pos h, if_pos h]
    have : (48 + n) % 256 = 48 + n := Nat.mod_eq_of_lt (by omega)
    simp [this]
  · rw [dif_neg h, if_neg h, List.map_append]
    have : (48 + n % 10) % 256 = 48 + n % 10 := Nat.mod_eq_of_lt (by omega)
    simp [this]
theorem decL_digits (n : Nat) : ∀ c ∈ decL n, 48 ≤ c ∧ c ≤ 57 := by
  induction n using Nat.strongRecOn with
  | _ n ih =>
    intro c hc
    rw [decL_eq] at hc
    by_cases h : n < 10
    · rw [if_pos h] at hc
      obtain rfl : c = 48 + (n : Int) := by simpa using hc
      omega
    · rw [if_neg h] at hc
      rcases List.mem_append.1 hc with hc | hc
      · exact ih _ (by omega) c hc
      · obtain rfl : c = 48 + ((n % 10 : Nat) : Int) := by simpa using hc
        omega
theorem decL_octets (n : Nat) : Octets (decL n) := fun c hc => by have := decL_digits n c hc; omega
theorem decL_all (n : Nat) : (decL n).all isD = true := by
  rw [List.all_eq_true]
  intro c hc
  have := decL_digits n c hc
  simp [isD, this]
theorem decL_ne (n : Nat) : decL n ≠ [] := by
  rw [decL_eq]
  split <;> simp
theorem decL_val (n : Nat) : valN (decL n) = n := by
  induction n using Nat.strongRecOn with
  | _ n ih =>
    rw [decL_eq]
    by_cases h : n < 10
    · rw [if_pos h]
      simp [valN]
      omega
    · rw [if_neg h, valN_snoc, ih _ (by omega)]
      omega
theorem decL_short : ∀ (k n : Nat), n < 10 ^ (k + 1) → (decL n).length ≤ k + 1
  | 0, n, h => by
    rw [decL_eq, if_pos (by simpa using h)]
    simp
  | k + 1, n, h => by
    rw [decL_eq]
    by_cases h9 : n < 10
    · rw [if_pos h9]; simp
    · rw [if_neg h9, List.length_append]
      have := decL_short k (n / 10) (by rw [Nat.pow_succ] at h; omega)
      simp only [List.length_cons, List.length_nil]
      omega
theorem decL_lead : ∀ (n : Nat), 0 < n → (decL n).getD 0 0 ≠ 48 := by
  intro n
  induction n using Nat.strongRecOn with
  | _ n ih =>
    intro h0
    rw [decL_eq]
    by_cases h : n < 10
    · rw [if_pos h]
      simp
      omega
    · rw [if_neg h]
      have h1 := ih (n / 10) (by omega) (by omega)
      have h2 := decL_ne (n / 10)
      cases hq : decL (n / 10) with
      | nil => exact absurd hq h2
      | cons x xs =>
        rw [hq] at h1
        simpa using h1
theorem numB_dec {n : Nat} {most : Int} (h : (n : Int) ≤ most) (hm : most ≤ 2147483647) : numB (decL n) most = true := by
  rw [numB_end (decL_ne n) (decL_short 9 n (by omega)) ?_ (decL_all n), decL_val]
  · exact decide_eq_true h
  · rintro ⟨h1, h2⟩
    by_cases h0 : n = 0
    · subst h0
      rw [decL_eq] at h1
      simp at h1
    · exact decL_lead n (by omega) h2
theorem val_lead : ∀ (m : Nat) (cs : List Int), cs.length = m → cs ≠ [] → cs.all isD = true → cs.getD 0 0 ≠ 48 → 0 < valN cs ∧ decL (valN cs).toNat = cs
  | 0, cs, h, hne, _, _ => absurd (List.eq_nil_of_length_eq_zero h) hne
  | m + 1, cs, h, _, hd, h0 => by
    rcases List.eq_nil_or_concat cs with rfl | ⟨l, c, rfl⟩
    · simp at h
    · rw [List.concat_eq_append] at *
      rw [List.all_append, Bool.and_eq_true] at hd
      have hc : isD c = true := by simpa using hd.2
      have hb : 48 ≤ c ∧ c ≤ 57 := by simpa [isD] using hc
      by_cases hl : l = []
      · subst hl
        have hc0 : c ≠ 48 := by simpa using h0
        have hv : valN ([] ++ [c]) = c - 48 := by simp [valN]
        rw [hv]
        refine ⟨by omega, ?_⟩
        rw [decL_eq, if_pos (by omega)]
        simp
        omega
      · have hl0 : l.getD 0 0 ≠ 48 := by
          cases l with
          | nil => exact absurd rfl hl
          | cons x xs => simpa using h0
        obtain ⟨h1, h2⟩ := val_lead m l (by simpa using h) hl hd.1 hl0
        rw [valN_snoc]
        refine ⟨by omega, ?_⟩
        rw [decL_eq, if_neg (by omega), show (10 * valN l + (c - 48)).toNat / 10 = (valN l).toNat by omega, h2]
        congr 1
        simp
        omega
theorem dec_val {cs : List Int} {most : Int} (h : numB cs most = true) : decL (valN cs).toNat = cs := by
  unfold numB at h
  simp only [Bool.and_eq_true, Bool.not_eq_true', Bool.and_eq_false_iff, decide_eq_false_iff_not, beq_eq_false_iff_ne, decide_eq_true_eq] at h
  obtain ⟨⟨⟨⟨h1, _⟩, h3⟩, h4⟩, _⟩ := h
  have hne : cs ≠ [] := by intro he; rw [he] at h1; simp at h1
  by_cases h0 : cs.getD 0 0 = 48
  · match cs, hne with
    | [c], _ =>
      have : c = 48 := by simpa using h0
      subst this
      decide +kernel
    | c :: d :: r, _ =>
      rcases h3 with h3 | h3
      · simp at h3
      · exact absurd h0 h3
  · exact (val_lead _ cs rfl hne h4 h0).2
theorem dig_val {c : Int} (h : ¬ valD c < 0) : dig (valD c) = c := by
  unfold valD dig at *
  split at h
  · split <;> omega
  · split at h
    · split <;> omega
    · omega
theorem flat_pairs : ∀ {cs l : List Int}, pairs cs = some l → l.flatMap twoD = cs
  | [], l, h => by rw [pairs] at h; injection h with h; subst h; rfl
  | [_], l, h => by rw [pairs] at h; cases h
  | a :: b :: r, l, h => by
    rw [pairs] at h
    split at h
    · cases h
    · next hn =>
      cases hr : pairs r with
      | none => rw [hr] at h; cases h
      | some q =>
        rw [hr] at h
        injection h with h
        subst h
        have h1 := valD_bd a
        have h2 := valD_bd b
        rw [List.flatMap_cons, flat_pairs hr]
        unfold twoD
        rw [show (16 * valD a + valD b) / 16 = valD a by omega, show (16 * valD a + valD b) % 16 = valD b by omega, dig_val (by omega), dig_val (by omega)]
        rfl
theorem hex_un {cs : List Int} (h : unB cs = true) : hexL (unL cs) = cs := by
  unfold unB at h
  unfold unL
  cases hq : unhexL cs with
  | none => rw [hq] at h; cases h
  | some l =>
    show hexL l = cs
    unfold unhexL at hq
    split at hq
    · next he => injection hq with hq; subst hq; rw [he]; rfl
    · split at hq
      · cases hq
      · next hne =>
        have := flat_pairs hq
        unfold hexL
        rw [if_neg, this]
        intro hl
        rw [hl] at this
        exact hne this.symm
theorem un_hex {xs : List Int} (h : Octets xs) : unB (hexL xs) = true ∧ unL (hexL xs) = xs := by
  unfold unB unL
  rw [unhex_hex h]
  exact ⟨rfl, rfl⟩
theorem un_octets {cs : List Int} (h : unB cs = true) : Octets (unL cs) := by
  unfold unB at h
  unfold unL
  cases hq : unhexL cs with
  | none => rw [hq] at h; cases h
  | some l =>
    show Octets l
    unfold unhexL at hq
    split at hq
    · injection hq with hq; subst hq; intro x hx; simp at hx
    · split at hq
      · cases hq
      · exact pairs_octets hq
theorem un_len (cs : List Int) : (unL cs).length ≤ cs.length := by
  unfold unL
  cases hq : unhexL cs with
  | none => simp
  | some l =>
    show l.length ≤ _
    unfold unhexL at hq
    split at hq
    · injection hq with hq; subst hq; simp
    · split at hq
      · cases hq
      · have h1 := flat_pairs hq
        have h2 := flat_length l
        rw [h1] at h2
        omega
theorem dec_blank (n : Nat) : ∀ c ∈ decL n, c ≠ 32 := fun c hc => by have := decL_digits n c hc; omega
theorem hex_blank {xs : List Int} (h : Octets xs) : ∀ c ∈ hexL xs, c ≠ 32 := by
  intro c hc
  unfold hexL at hc
  split at hc
  · obtain rfl : c = 46 := by simpa using hc
    omega
  · obtain ⟨y, hy, hxy⟩ := List.mem_flatMap.1 hc
    have hb := h y hy
    have h1 := dig_bd (n := y / 16) (by omega)
    have h2 := dig_bd (n := y % 16) (by omega)
    simp [twoD] at hxy
    omega
theorem word_blank (k : Int) : ∀ c ∈ wordP k, c ≠ 32 := by
  unfold wordP
  repeat' split
  all_goals decide
theorem words_join : ∀ ws : List (List Int), ws ≠ [] → (∀ w ∈ ws, ∀ c ∈ w, c ≠ 32) → wordsL (joinW ws) = ws
  | [], h, _ => absurd rfl h
  | [w], _, h => wordsL_end w (h w (by simp))
  | w :: v :: ws, _, h => by
    rw [joinW, wordsL_cut w _ (h w (by simp)), words_join (v :: ws) (by simp) fun x hx => h x (by simp [hx])]
theorem octets_join : ∀ ws : List (List Int), (∀ w ∈ ws, Octets w) → Octets (joinW ws)
  | [], _ => fun x hx => by simp [joinW] at hx
  | [w], h => h w (by simp)
  | w :: v :: ws, h => fun x hx => by
    rw [joinW] at hx
    rcases List.mem_append.1 hx with hx | hx
    · exact h w (by simp) x hx
    · rcases List.mem_cons.1 hx with rfl | hx
      · decide
      · exact octets_join (v :: ws) (fun y hy => h y (by simp [hy])) x hx

/-- The line of an act is read as that act. -/
theorem line_act (a : ActV) (l : List Int) (hk : 0 ≤ a.k ∧ a.k ≤ 255) (hm : 0 ≤ a.m ∧ a.m ≤ 255) (hv : 0 ≤ a.v) (ho : Octets a.d) (h : lineP a = some l) : actL l = .ok a ∧ Octets l := by
  unfold lineP at h
  split at h
  · cases h
  next hn =>
  split at h
  case isFalse => cases h
  next hb =>
  injection h with h
  subst h
  rw [not_or] at hn
  obtain ⟨hw, hin⟩ := hn
  rw [Bool.not_eq_false] at hin
  unfold inA at hin
  simp only [Bool.and_eq_true, decide_eq_true_eq] at hin
  obtain ⟨⟨⟨⟨hp0, hp1⟩, hn0⟩, hn1⟩, hv1⟩ := hin
  obtain ⟨k, m, p, n, v, d⟩ := a
  simp only at *
  obtain ⟨m, rfl⟩ : ∃ m' : Nat, m = m' := ⟨m.toNat, by omega⟩
  obtain ⟨p, rfl⟩ : ∃ m' : Nat, p = m' := ⟨p.toNat, by omega⟩
  obtain ⟨n, rfl⟩ : ∃ m' : Nat, n = m' := ⟨n.toNat, by omega⟩
  obtain ⟨v, rfl⟩ : ∃ m' : Nat, v = m' := ⟨v.toNat, by omega⟩
  by_cases h1 : k = 1
  · subst h1
    have hs : sumP ⟨1, m, p, n, v, d⟩ = (joinW [[98, 117, 105, 108, 100], decL m, decL v, hexL d], ⟨1, 0, (p : Int), (n : Int), 0, []⟩) := by simp [sumP, lettersP, wordP, stepP, textA, clearA, joinW]
    rw [hs] at hb ⊢
    have hz : bareA ⟨1, 0, (p : Int), (n : Int), 0, []⟩ = true := hb
    unfold bareA at hz
    simp only [Bool.and_eq_true, decide_eq_true_eq] at hz
    obtain rfl : p = 0 := by omega
    obtain rfl : n = 0 := by omega
    have hj := words_join [[98, 117, 105, 108, 100], decL m, decL v, hexL d] (by simp) (by
      intro w hw
      simp only [List.mem_cons, List.not_mem_nil, or_false] at hw
      rcases hw with rfl | rfl | rfl | rfl
      · decide
      · exact dec_blank _
      · exact dec_blank _
      · exact hex_blank ho)
    refine ⟨?_, ?_⟩
    · unfold actL
      rw [hj]
      have hf : formL [98, 117, 105, 108, 100] = some ([98, 110, 116], 1) := by decide
      rw [List.getD_cons_zero, hf]
      have g0 := numB_dec (n := m) (most := 255) (by omega) (by omega)
      have g1 := numB_dec (n := v) (most := 2147483647) (by omega) (by omega)
      have g2 := un_hex ho
      simp [fieldsL, stepF, actOf, decL_val, g0, g1, g2.1, g2.2]
    · refine octets_join _ ?_
      intro w hw
      simp only [List.mem_cons, List.not_mem_nil, or_false] at hw
      rcases hw with rfl | rfl | rfl | rfl
      · unfold Octets
        decide
      · exact decL_octets _
      · exact decL_octets _
      · exact hexL_octets ho
  by_cases h2 : k = 2
  · subst h2
    have hs : sumP ⟨2, m, p, n, v, d⟩ = (joinW [[102, 101, 101, 100], decL p, decL n], ⟨2, (m : Int), 0, 0, (v : Int), d⟩) := by simp [sumP, lettersP, wordP, stepP, textA, clearA, joinW]
    rw [hs] at hb ⊢
    have hz : bareA ⟨2, (m : Int), 0, 0, (v : Int), d⟩ = true := hb
    unfold bareA at hz
    simp only [Bool.and_eq_true, decide_eq_true_eq] at hz
    obtain rfl : m = 0 := by omega
    obtain rfl : v = 0 := by omega
    obtain rfl : d = [] := List.eq_nil_of_length_eq_zero (by omega)
    have hj := words_join [[102, 101, 101, 100], decL p, decL n] (by simp) (by
      intro w hw
      simp only [List.mem_cons, List.not_mem_nil, or_false] at hw
      rcases hw with rfl | rfl | rfl
      · decide
      · exact dec_blank _
      · exact dec_blank _)
    refine ⟨?_, ?_⟩
    · unfold actL
      rw [hj]
      have hf : formL [102, 101, 101, 100] = some ([110, 110], 2) := by decide
      rw [List.getD_cons_zero, hf]
      have g0 := numB_dec (n := p) (most := 2147483647) (by omega) (by omega)
      have g1 := numB_dec (n := n) (most := 2147483647) (by omega) (by omega)
      simp [fieldsL, stepF, actOf, decL_val, g0, g1]
    · refine octets_join _ ?_
      intro w hw
      simp only [List.mem_cons, List.not_mem_nil, or_false] at hw
      rcases hw with rfl | rfl | rfl
      · unfold Octets
        decide
      · exact decL_octets _
      · exact decL_octets _
  by_cases h3 : k = 3
  · subst h3
    have hs : sumP ⟨3, m, p, n, v, d⟩ = (joinW [[98, 101, 103, 105, 110]], ⟨3, (m : Int), (p : Int), (n : Int), (v : Int), d⟩) := by simp [sumP, lettersP, wordP, stepP, textA, clearA, joinW]
    rw [hs] at hb ⊢
    have hz : bareA ⟨3, (m : Int), (p : Int), (n : Int), (v : Int), d⟩ = true := hb
    unfold bareA at hz
    simp only [Bool.and_eq_true, decide_eq_true_eq] at hz
    obtain rfl : m = 0 := by omega
    obtain rfl : v = 0 := by omega
    obtain rfl : d = [] := List.eq_nil_of_length_eq_zero (by omega)
    obtain rfl : p = 0 := by omega
    obtain rfl : n = 0 := by omega
    have hj := words_join [[98, 101, 103, 105, 110]] (by simp) (by
      intro w hw
      simp only [List.mem_cons, List.not_mem_nil, or_false] at hw
      subst hw
      decide)
    refine ⟨?_, ?_⟩
    · unfold actL
      rw [hj]
      have hf : formL [98, 101, 103, 105, 110] = some ([], 3) := by decide
      rw [List.getD_cons_zero, hf]
      simp [fieldsL, stepF, actOf, decL_val]
    · refine octets_join _ ?_
      intro w hw
      simp only [List.mem_cons, List.not_mem_nil, or_false] at hw
      subst hw
      unfold Octets
      decide
  by_cases h4 : k = 4
  · subst h4
    have hs : sumP ⟨4, m, p, n, v, d⟩ = (joinW [[99, 111, 109, 109, 105, 116]], ⟨4, (m : Int), (p : Int), (n : Int), (v : Int), d⟩) := by simp [sumP, lettersP, wordP, stepP, textA, clearA, joinW]
    rw [hs] at hb ⊢
    have hz : bareA ⟨4, (m : Int), (p : Int), (n : Int), (v : Int), d⟩ = true := hb
    unfold bareA at hz
    simp only [Bool.and_eq_true, decide_eq_true_eq] at hz
    obtain rfl : m = 0 := by omega
    obtain rfl : v = 0 := by omega
    obtain rfl : d = [] := List.eq_nil_of_length_eq_zero (by omega)
    obtain rfl : p = 0 := by omega
    obtain rfl : n = 0 := by omega
    have hj := words_join [[99, 111, 109, 109, 105, 116]] (by simp) (by
      intro w hw
      simp only [List.mem_cons, List.not_mem_nil, or_false] at hw
      subst hw
      decide)
    refine ⟨?_, ?_⟩
    · unfold actL
      rw [hj]
      have hf : formL [99, 111, 109, 109, 105, 116] = some ([], 4) := by decide
      rw [List.getD_cons_zero, hf]
      simp [fieldsL, stepF, actOf, decL_val]
    · refine octets_join _ ?_
      intro w hw
      simp only [List.mem_cons, List.not_mem_nil, or_false] at hw
      subst hw
      unfold Octets
      decide
  by_cases h5 : k = 5
  · subst h5
    have hs : sumP ⟨5, m, p, n, v, d⟩ = (joinW [[99, 97, 110, 99, 101, 108]], ⟨5, (m : Int), (p : Int), (n : Int), (v : Int), d⟩) := by simp [sumP, lettersP, wordP, stepP, textA, clearA, joinW]
    rw [hs] at hb ⊢
    have hz : bareA ⟨5, (m : Int), (p : Int), (n : Int), (v : Int), d⟩ = true := hb
    unfold bareA at hz
    simp only [Bool.and_eq_true, decide_eq_true_eq] at hz
    obtain rfl : m = 0 := by omega
    obtain rfl : v = 0 := by omega
    obtain rfl : d = [] := List.eq_nil_of_length_eq_zero (by omega)
    obtain rfl : p = 0 := by omega
    obtain rfl : n = 0 := by omega
    have hj := words_join [[99, 97, 110, 99, 101, 108]] (by simp) (by
      intro w hw
      simp only [List.mem_cons, List.not_mem_nil, or_false] at hw
      subst hw
      decide)
    refine ⟨?_, ?_⟩
    · unfold actL
      rw [hj]
      have hf : formL [99, 97, 110, 99, 101, 108] = some ([], 5) := by decide
      rw [List.getD_cons_zero, hf]
      simp [fieldsL, stepF, actOf, decL_val]
    · refine octets_join _ ?_
      intro w hw
      simp only [List.mem_cons, List.not_mem_nil, or_false] at hw
      subst hw
      unfold Octets
      decide
  by_cases h6 : k = 6
  · subst h6
    have hs : sumP ⟨6, m, p, n, v, d⟩ = (joinW [[102, 117, 115, 101], decL n], ⟨6, (m : Int), (p : Int), 0, (v : Int), d⟩) := by simp [sumP, lettersP, wordP, stepP, textA, clearA, joinW]
    rw [hs] at hb ⊢
    have hz : bareA ⟨6, (m : Int), (p : Int), 0, (v : Int), d⟩ = true := hb
    unfold bareA at hz
    simp only [Bool.and_eq_true, decide_eq_true_eq] at hz
    obtain rfl : m = 0 := by omega
    obtain rfl : v = 0 := by omega
    obtain rfl : d = [] := List.eq_nil_of_length_eq_zero (by omega)
    obtain rfl : p = 0 := by omega
    have hj := words_join [[102, 117, 115, 101], decL n] (by simp) (by
      intro w hw
      simp only [List.mem_cons, List.not_mem_nil, or_false] at hw
      rcases hw with rfl | rfl
      · decide
      · exact dec_blank _)
    refine ⟨?_, ?_⟩
    · unfold actL
      rw [hj]
      have hf : formL [102, 117, 115, 101] = some ([110], 6) := by decide
      rw [List.getD_cons_zero, hf]
      have g0 := numB_dec (n := n) (most := 2147483647) (by omega) (by omega)
      simp [fieldsL, stepF, actOf, decL_val, g0]
    · refine octets_join _ ?_
      intro w hw
      simp only [List.mem_cons, List.not_mem_nil, or_false] at hw
      rcases hw with rfl | rfl
      · unfold Octets
        decide
      · exact decL_octets _
  by_cases h7 : k = 7
  · subst h7
    have hs : sumP ⟨7, m, p, n, v, d⟩ = (joinW [[102, 97, 108, 108], hexL d], ⟨7, (m : Int), (p : Int), (n : Int), (v : Int), []⟩) := by simp [sumP, lettersP, wordP, stepP, textA, clearA, joinW]
    rw [hs] at hb ⊢
    have hz : bareA ⟨7, (m : Int), (p : Int), (n : Int), (v : Int), []⟩ = true := hb
    unfold bareA at hz
    simp only [Bool.and_eq_true, decide_eq_true_eq] at hz
    obtain rfl : m = 0 := by omega
    obtain rfl : v = 0 := by omega
    obtain rfl : p = 0 := by omega
    obtain rfl : n = 0 := by omega
    have hj := words_join [[102, 97, 108, 108], hexL d] (by simp) (by
      intro w hw
      simp only [List.mem_cons, List.not_mem_nil, or_false] at hw
      rcases hw with rfl | rfl
      · decide
      · exact hex_blank ho)
    refine ⟨?_, ?_⟩
    · unfold actL
      rw [hj]
      have hf : formL [102, 97, 108, 108] = some ([116], 7) := by decide
      rw [List.getD_cons_zero, hf]
      have g0 := un_hex ho
      simp [fieldsL, stepF, actOf, decL_val, g0.1, g0.2]
    · refine octets_join _ ?_
      intro w hw
      simp only [List.mem_cons, List.not_mem_nil, or_false] at hw
      rcases hw with rfl | rfl
      · unfold Octets
        decide
      · exact hexL_octets ho
  by_cases h8 : k = 8
  · subst h8
    have hs : sumP ⟨8, m, p, n, v, d⟩ = (joinW [[115, 112, 111, 105, 108], decL p, decL n, decL m], ⟨8, 0, 0, 0, (v : Int), d⟩) := by simp [sumP, lettersP, wordP, stepP, textA, clearA, joinW]
    rw [hs] at hb ⊢
    have hz : bareA ⟨8, 0, 0, 0, (v : Int), d⟩ = true := hb
    unfold bareA at hz
    simp only [Bool.and_eq_true, decide_eq_true_eq] at hz
    obtain rfl : v = 0 := by omega
    obtain rfl : d = [] := List.eq_nil_of_length_eq_zero (by omega)
    have hj := words_join [[115, 112, 111, 105, 108], decL p, decL n, decL m] (by simp) (by
      intro w hw
      simp only [List.mem_cons, List.not_mem_nil, or_false] at hw
      rcases hw with rfl | rfl | rfl | rfl
      · decide
      · exact dec_blank _
      · exact dec_blank _
      · exact dec_blank _)
    refine ⟨?_, ?_⟩
    · unfold actL
      rw [hj]
      have hf : formL [115, 112, 111, 105, 108] = some ([110, 110, 98], 8) := by decide
      rw [List.getD_cons_zero, hf]
      have g0 := numB_dec (n := p) (most := 2147483647) (by omega) (by omega)
      have g1 := numB_dec (n := n) (most := 2147483647) (by omega) (by omega)
      have g2 := numB_dec (n := m) (most := 255) (by omega) (by omega)
      simp [fieldsL, stepF, actOf, decL_val, g0, g1, g2]
    · refine octets_join _ ?_
      intro w hw
      simp only [List.mem_cons, List.not_mem_nil, or_false] at hw
      rcases hw with rfl | rfl | rfl | rfl
      · unfold Octets
        decide
      · exact decL_octets _
      · exact decL_octets _
      · exact decL_octets _
  by_cases h9 : k = 9
  · subst h9
    have hs : sumP ⟨9, m, p, n, v, d⟩ = (joinW [[105, 109, 97, 103, 101]], ⟨9, (m : Int), (p : Int), (n : Int), (v : Int), d⟩) := by simp [sumP, lettersP, wordP, stepP, textA, clearA, joinW]
    rw [hs] at hb ⊢
    have hz : bareA ⟨9, (m : Int), (p : Int), (n : Int), (v : Int), d⟩ = true := hb
    unfold bareA at hz
    simp only [Bool.and_eq_true, decide_eq_true_eq] at hz
    obtain rfl : m = 0 := by omega
    obtain rfl : v = 0 := by omega
    obtain rfl : d = [] := List.eq_nil_of_length_eq_zero (by omega)
    obtain rfl : p = 0 := by omega
    obtain rfl : n = 0 := by omega
    have hj := words_join [[105, 109, 97, 103, 101]] (by simp) (by
      intro w hw
      simp only [List.mem_cons, List.not_mem_nil, or_false] at hw
      subst hw
      decide)
    refine ⟨?_, ?_⟩
    · unfold actL
      rw [hj]
      have hf : formL [105, 109, 97, 103, 101] = some ([], 9) := by decide
      rw [List.getD_cons_zero, hf]
      simp [fieldsL, stepF, actOf, decL_val]
    · refine octets_join _ ?_
      intro w hw
      simp only [List.mem_cons, List.not_mem_nil, or_false] at hw
      subst hw
      unfold Octets
      decide
  by_cases h10 : k = 10
  · subst h10
    have hs : sumP ⟨10, m, p, n, v, d⟩ = (joinW [[115, 116, 97, 116, 117, 115]], ⟨10, (m : Int), (p : Int), (n : Int), (v : Int), d⟩) := by simp [sumP, lettersP, wordP, stepP, textA, clearA, joinW]
    rw [hs] at hb ⊢
    have hz : bareA ⟨10, (m : Int), (p : Int), (n : Int), (v : Int), d⟩ = true := hb
    unfold bareA at hz
    simp only [Bool.and_eq_true, decide_eq_true_eq] at hz
    obtain rfl : m = 0 := by omega
    obtain rfl : v = 0 := by omega
    obtain rfl : d = [] := List.eq_nil_of_length_eq_zero (by omega)
    obtain rfl : p = 0 := by omega
    obtain rfl : n = 0 := by omega
    have hj := words_join [[115, 116, 97, 116, 117, 115]] (by simp) (by
      intro w hw
      simp only [List.mem_cons, List.not_mem_nil, or_false] at hw
      subst hw
      decide)
    refine ⟨?_, ?_⟩
    · unfold actL
      rw [hj]
      have hf : formL [115, 116, 97, 116, 117, 115] = some ([], 10) := by decide
      rw [List.getD_cons_zero, hf]
      simp [fieldsL, stepF, actOf, decL_val]
    · refine octets_join _ ?_
      intro w hw
      simp only [List.mem_cons, List.not_mem_nil, or_false] at hw
      subst hw
      unfold Octets
      decide
  exact absurd (show wordP k = [] by unfold wordP; simp only [h1, h2, h3, h4, h5, h6, h7, h8, h9, h10, if_false]) hw
/-- The act that a line tells has that line. -/
theorem act_line (cs : List Int) (a : ActV) (h : actL cs = .ok a) : lineP a = some cs ∧ (0 ≤ a.k ∧ a.k ≤ 255) ∧ (0 ≤ a.m ∧ a.m ≤ 255) ∧ 0 ≤ a.v ∧ Octets a.d ∧ a.d.length ≤ cs.length := by
  unfold actL at h
  cases hf : formL ((wordsL cs).getD 0 []) with
  | none => rw [hf] at h; cases h
  | some fk =>
    obtain ⟨f, k⟩ := fk
    rw [hf] at h
    simp only at h
    cases hq : fieldsL (wordsL cs) f with
    | none => rw [hq] at h; cases h
    | some nt =>
      obtain ⟨ns, ts⟩ := nt
      rw [hq] at h
      simp only at h
      injection h with h
      subst h
      have hjoin := join_words cs
      obtain ⟨ws, hws⟩ : ∃ ws, wordsL cs = ws := ⟨_, rfl⟩
      rw [hws] at hf hq hjoin
      subst hjoin
      unfold fieldsL at hq
      split at hq
      case isFalse => cases hq
      next hlen =>
      unfold formL at hf
      split at hf
      · next he =>
        obtain ⟨rfl, rfl⟩ : [98, 110, 116] = f ∧ 1 = k := by simpa using hf
        match ws, hlen with
        | [w0, w1, w2, w3], _ =>
        obtain rfl : w0 = [98, 117, 105, 108, 100] := by simpa using he
        cases c0 : numB w1 255 with
        | false => simp [stepF, c0] at hq
        | true =>
        cases c1 : numB w2 2147483647 with
        | false => simp [stepF, c0, c1] at hq
        | true =>
        cases c2 : unB w3 with
        | false => simp [stepF, c0, c1, c2] at hq
        | true =>
        simp [stepF, c0, c1, c2] at hq
        obtain ⟨rfl, rfl⟩ := hq
        have e0 := dec_val c0
        have b0 := numB_le c0
        have e1 := dec_val c1
        have b1 := numB_le c1
        have e2 := hex_un c2
        have o2 := un_octets c2
        refine ⟨?_, ⟨by simp [actOf], by simp [actOf]⟩, ?_, ?_, ?_, ?_⟩
        · unfold lineP
          rw [if_neg, if_pos]
          · simp [actOf, sumP, lettersP, wordP, stepP, textA, clearA, joinW, e0, e1, e2]
          · simp [actOf, sumP, lettersP, stepP, clearA, bareA]
          · simp [actOf, wordP, inA]
            omega
        · simp [actOf]; omega
        · simp [actOf]; omega
        · simp [actOf]; exact o2
        · have := un_len w3
          simp [actOf, joinW]; omega
      split at hf
      · next he =>
        obtain ⟨rfl, rfl⟩ : [110, 110] = f ∧ 2 = k := by simpa using hf
        match ws, hlen with
        | [w0, w1, w2], _ =>
        obtain rfl : w0 = [102, 101, 101, 100] := by simpa using he
        cases c0 : numB w1 2147483647 with
        | false => simp [stepF, c0] at hq
        | true =>
        cases c1 : numB w2 2147483647 with
        | false => simp [stepF, c0, c1] at hq
        | true =>
        simp [stepF, c0, c1] at hq
        obtain ⟨rfl, rfl⟩ := hq
        have e0 := dec_val c0
        have b0 := numB_le c0
        have e1 := dec_val c1
        have b1 := numB_le c1
        refine ⟨?_, ⟨by simp [actOf], by simp [actOf]⟩, ?_, ?_, ?_, ?_⟩
        · unfold lineP
          rw [if_neg, if_pos]
          · simp [actOf, sumP, lettersP, wordP, stepP, textA, clearA, joinW, e0, e1]
          · simp [actOf, sumP, lettersP, stepP, clearA, bareA]
          · simp [actOf, wordP, inA]
            omega
        · simp [actOf]
        · simp [actOf]
        · simp [actOf]; exact fun x hx => by simp at hx
        · simp [actOf]
      split at hf
      · next he =>
        obtain ⟨rfl, rfl⟩ : [] = f ∧ 3 = k := by simpa using hf
        match ws, hlen with
        | [w0], _ =>
        obtain rfl : w0 = [98, 101, 103, 105, 110] := by simpa using he
        simp [stepF] at hq
        obtain ⟨rfl, rfl⟩ := hq
        refine ⟨?_, ⟨by simp [actOf], by simp [actOf]⟩, ?_, ?_, ?_, ?_⟩
        · unfold lineP
          rw [if_neg, if_pos]
          · simp [actOf, sumP, lettersP, wordP, stepP, textA, clearA, joinW]
          · simp [actOf, sumP, lettersP, stepP, clearA, bareA]
          · simp [actOf, wordP, inA]
        · simp [actOf]
        · simp [actOf]
        · simp [actOf]; exact fun x hx => by simp at hx
        · simp [actOf]
      split at hf
      · next he =>
        obtain ⟨rfl, rfl⟩ : [] = f ∧ 4 = k := by simpa using hf
        match ws, hlen with
        | [w0], _ =>
        obtain rfl : w0 = [99, 111, 109, 109, 105, 116] := by simpa using he
        simp [stepF] at hq
        obtain ⟨rfl, rfl⟩ := hq
        refine ⟨?_, ⟨by simp [actOf], by simp [actOf]⟩, ?_, ?_, ?_, ?_⟩
        · unfold lineP
          rw [if_neg, if_pos]
          · simp [actOf, sumP, lettersP, wordP, stepP, textA, clearA, joinW]
          · simp [actOf, sumP, lettersP, stepP, clearA, bareA]
          · simp [actOf, wordP, inA]
        · simp [actOf]
        · simp [actOf]
        · simp [actOf]; exact fun x hx => by simp at hx
        · simp [actOf]
      split at hf
      · next he =>
        obtain ⟨rfl, rfl⟩ : [] = f ∧ 5 = k := by simpa using hf
        match ws, hlen with
        | [w0], _ =>
        obtain rfl : w0 = [99, 97, 110, 99, 101, 108] := by simpa using he
        simp [stepF] at hq
        obtain ⟨rfl, rfl⟩ := hq
        refine ⟨?_, ⟨by simp [actOf], by simp [actOf]⟩, ?_, ?_, ?_, ?_⟩
        · unfold lineP
          rw [if_neg, if_pos]
          · simp [actOf, sumP, lettersP, wordP, stepP, textA, clearA, joinW]
          · simp [actOf, sumP, lettersP, stepP, clearA, bareA]
          · simp [actOf, wordP, inA]
        · simp [actOf]
        · simp [actOf]
        · simp [actOf]; exact fun x hx => by simp at hx
        · simp [actOf]
      split at hf
      · next he =>
        obtain ⟨rfl, rfl⟩ : [110] = f ∧ 6 = k := by simpa using hf
        match ws, hlen with
        | [w0, w1], _ =>
        obtain rfl : w0 = [102, 117, 115, 101] := by simpa using he
        cases c0 : numB w1 2147483647 with
        | false => simp [stepF, c0] at hq
        | true =>
        simp [stepF, c0] at hq
        obtain ⟨rfl, rfl⟩ := hq
        have e0 := dec_val c0
        have b0 := numB_le c0
        refine ⟨?_, ⟨by simp [actOf], by simp [actOf]⟩, ?_, ?_, ?_, ?_⟩
        · unfold lineP
          rw [if_neg, if_pos]
          · simp [actOf, sumP, lettersP, wordP, stepP, textA, clearA, joinW, e0]
          · simp [actOf, sumP, lettersP, stepP, clearA, bareA]
          · simp [actOf, wordP, inA]
            omega
        · simp [actOf]
        · simp [actOf]
        · simp [actOf]; exact fun x hx => by simp at hx
        · simp [actOf]
      split at hf
      · next he =>
        obtain ⟨rfl, rfl⟩ : [116] = f ∧ 7 = k := by simpa using hf
        match ws, hlen with
        | [w0, w1], _ =>
        obtain rfl : w0 = [102, 97, 108, 108] := by simpa using he
        cases c0 : unB w1 with
        | false => simp [stepF, c0] at hq
        | true =>
        simp [stepF, c0] at hq
        obtain ⟨rfl, rfl⟩ := hq
        have e0 := hex_un c0
        have o0 := un_octets c0
        refine ⟨?_, ⟨by simp [actOf], by simp [actOf]⟩, ?_, ?_, ?_, ?_⟩
        · unfold lineP
          rw [if_neg, if_pos]
          · simp [actOf, sumP, lettersP, wordP, stepP, textA, clearA, joinW, e0]
          · simp [actOf, sumP, lettersP, stepP, clearA, bareA]
          · simp [actOf, wordP, inA]
        · simp [actOf]
        · simp [actOf]
        · simp [actOf]; exact o0
        · have := un_len w1
          simp [actOf, joinW]; omega
      split at hf
      · next he =>
        obtain ⟨rfl, rfl⟩ : [110, 110, 98] = f ∧ 8 = k := by simpa using hf
        match ws, hlen with
        | [w0, w1, w2, w3], _ =>
        obtain rfl : w0 = [115, 112, 111, 105, 108] := by simpa using he
        cases c0 : numB w1 2147483647 with
        | false => simp [stepF, c0] at hq
        | true =>
        cases c1 : numB w2 2147483647 with
        | false => simp [stepF, c0, c1] at hq
        | true =>
        cases c2 : numB w3 255 with
        | false => simp [stepF, c0, c1, c2] at hq
        | true =>
        simp [stepF, c0, c1, c2] at hq
        obtain ⟨rfl, rfl⟩ := hq
        have e0 := dec_val c0
        have b0 := numB_le c0
        have e1 := dec_val c1
        have b1 := numB_le c1
        have e2 := dec_val c2
        have b2 := numB_le c2
        refine ⟨?_, ⟨by simp [actOf], by simp [actOf]⟩, ?_, ?_, ?_, ?_⟩
        · unfold lineP
          rw [if_neg, if_pos]
          · simp [actOf, sumP, lettersP, wordP, stepP, textA, clearA, joinW, e0, e1, e2]
          · simp [actOf, sumP, lettersP, stepP, clearA, bareA]
          · simp [actOf, wordP, inA]
            omega
        · simp [actOf]; omega
        · simp [actOf]
        · simp [actOf]; exact fun x hx => by simp at hx
        · simp [actOf]
      split at hf
      · next he =>
        obtain ⟨rfl, rfl⟩ : [] = f ∧ 9 = k := by simpa using hf
        match ws, hlen with
        | [w0], _ =>
        obtain rfl : w0 = [105, 109, 97, 103, 101] := by simpa using he
        simp [stepF] at hq
        obtain ⟨rfl, rfl⟩ := hq
        refine ⟨?_, ⟨by simp [actOf], by simp [actOf]⟩, ?_, ?_, ?_, ?_⟩
        · unfold lineP
          rw [if_neg, if_pos]
          · simp [actOf, sumP, lettersP, wordP, stepP, textA, clearA, joinW]
          · simp [actOf, sumP, lettersP, stepP, clearA, bareA]
          · simp [actOf, wordP, inA]
        · simp [actOf]
        · simp [actOf]
        · simp [actOf]; exact fun x hx => by simp at hx
        · simp [actOf]
      split at hf
      · next he =>
        obtain ⟨rfl, rfl⟩ : [] = f ∧ 10 = k := by simpa using hf
        match ws, hlen with
        | [w0], _ =>
        obtain rfl : w0 = [115, 116, 97, 116, 117, 115] := by simpa using he
        simp [stepF] at hq
        obtain ⟨rfl, rfl⟩ := hq
        refine ⟨?_, ⟨by simp [actOf], by simp [actOf]⟩, ?_, ?_, ?_, ?_⟩
        · unfold lineP
          rw [if_neg, if_pos]
          · simp [actOf, sumP, lettersP, wordP, stepP, textA, clearA, joinW]
          · simp [actOf, sumP, lettersP, stepP, clearA, bareA]
          · simp [actOf, wordP, inA]
        · simp [actOf]
        · simp [actOf]
        · simp [actOf]; exact fun x hx => by simp at hx
        · simp [actOf]
      cases hf
end Go.Proofs.YtpdlibegjkbknaaDoor.Tz

namespace Go.Proofs.YtpdlibegjkbknaaDoor.Tz
open Go.Proofs
open Go.ChangeShapes Go.WideShapes Go.ChangeAt Go.RowKit Go.Proofs.YtpdlibegjkbknaaDoor.Kit Go.Proofs.YtpdlibegjkbknaaDoor.Tx Go.Proofs.YtpdlibegjkbknaaDoor.Ty

set_option maxRecDepth 100000 in
set_option maxHeartbeats 3200000 in
theorem awake_any (w : World) : Calls Tryd.prog 5 #[] w fun e w' => e = .returned (.bool true) ∧ Below w.heap.size w w' := by
  have hB := (Below.refl w.heap.size w).alloc (Nat.le_refl _) (.cells #[.int .u8 10, .int .u8 255] 5)
  have hr : Holds (w.alloc (.cells #[.int .u8 10, .int .u8 255] 5)) (w.alloc (.cells #[.int .u8 10, .int .u8 255] 5)).heap.size .u8 (some ⟨w.heap.size, 0, none⟩) [10, 255] := by
    have blk := Block.new w 5 #[.int .u8 10, .int .u8 255]
    intro _
    refine ⟨w.heap.size, 0, rfl, by simp, fun j hj => ?_⟩
    match j, hj with
    | 0, _ => exact blk.cell 0
    | 1, _ => exact blk.cell 1
  have GH := hex_any (some ⟨w.heap.size, 0, none⟩) [10, 255] 2 _ (by simp) (by intro x hx; simp at hx; omega) hr
  rw [show strOfNums (hexL [10, 255]) = ⟨#[48, 97, 102, 102]⟩ by rfl] at GH
  have G := Lib.hid GH
  have HB := Lib.hid hB
  clear GH hB hr
  go_enter Tryd.func5, Tryd.ntmps5
  go_wp2_with (go_at_call 9; refine G.out.mono ?_; rintro e w1 ⟨rfl, hb1⟩)
  go_ret
  exact ⟨rfl, HB.out.trans (hb1.mono HB.out.size)⟩

theorem act_err {cs : List Int} {y : Int} (h : actL cs = .error y) : y = 21 ∨ y = 3 := by
  unfold actL at h
  split at h
  · injection h with h; exact .inl h.symm
  · split at h
    · injection h with h; exact .inr h.symm
    · cases h
theorem data_own {w : World} {B : Nat} {v : Value} {xs : List Int} (h : Own w B 5 .u8 v xs) : DataV w v xs := by
  obtain ⟨A, c, rfl, _, _, hr⟩ := h.opened
  exact ⟨A, c, rfl, hr⟩
theorem DataV.below {w w' : World} {v : Value} {xs : List Int} (h : DataV w v xs) (hb : Below w.heap.size w w') : DataV w' v xs := by
  obtain ⟨A, c, rfl, hr⟩ := h
  exact ⟨A, c, rfl, (hr.below hb).more hb.size⟩

/-- Acts that tell the same are the same. -/
theorem same_eq (a : ActV) (v v2 : Value) (w : World) (h1 : DataV w v a.d) (h2 : DataV w v2 a.d) :
    Calls Tryd.prog 8 #[actV a v, actV a v2] w fun e w' => e = .returned (.bool true) ∧ Below w.heap.size w w' := by
  obtain ⟨k, m, p, n, u, d⟩ := a
  simp only at h1 h2
  have b0 := Block.new w 25 (actC ⟨k, m, p, n, u, d⟩ v)
  have hB0 := (Below.refl w.heap.size w).alloc (Nat.le_refl _) (.cells (actC ⟨k, m, p, n, u, d⟩ v) 25)
  have hs0 : (w.alloc (.cells (actC ⟨k, m, p, n, u, d⟩ v) 25)).heap.size = w.heap.size + 1 := by simp
  have b1 := Block.new (w.alloc (.cells (actC ⟨k, m, p, n, u, d⟩ v) 25)) 25 (actC ⟨k, m, p, n, u, d⟩ v2)
  have b2 := b0.alloc (.cells (actC ⟨k, m, p, n, u, d⟩ v2) 25)
  have hB1 := hB0.alloc hB0.size (.cells (actC ⟨k, m, p, n, u, d⟩ v2) 25)
  rw [hs0] at b1
  obtain ⟨W1, hW1⟩ : ∃ W1, (w.alloc (.cells (actC ⟨k, m, p, n, u, d⟩ v) 25)).alloc (.cells (actC ⟨k, m, p, n, u, d⟩ v2) 25) = W1 := ⟨_, rfl⟩
  rw [hW1] at b1 b2 hB1
  have HW1 := Lib.hid hW1
  have HB1 := Lib.hid hB1
  have x0 := b2.cell 0
  have x1 := b2.cell 1
  have x2 := b2.cell 2
  have x3 := b2.cell 3
  have x4 := b2.cell 4
  have x5 := b2.cell 5
  have y0 := b1.cell 0
  have y1 := b1.cell 1
  have y2 := b1.cell 2
  have y3 := b1.cell 3
  have y4 := b1.cell 4
  have y5 := b1.cell 5
  unfold actC at x0 x1 x2 x3 x4 x5 y0 y1 y2 y3 y4 y5
  simp only [List.getElem?_toArray, List.getElem?_cons_zero, List.getElem?_cons_succ] at x0 x1 x2 x3 x4 x5 y0 y1 y2 y3 y4 y5
  obtain ⟨A, c, rfl, hr⟩ := h1.below hB1
  obtain ⟨A2, c2, rfl, hr2⟩ := h2.below hB1
  have k1 := conv_bytes Tryd.underlying23 Tryd.underlying5 Tryd.underlying9 W1 A d c _ hr
  have k2 := conv_bytes Tryd.underlying23 Tryd.underlying5 Tryd.underlying9 W1 A2 d c2 _ hr2
  obtain ⟨sd, hsd⟩ : ∃ sd, strOfNums d = sd := ⟨_, rfl⟩
  rw [hsd] at k1 k2
  have kb : (sd.toList == sd.toList) = true := beq_self_eq_true _
  unfold actV
  clear hW1 b0 b1 b2 hB0 hB1 hs0 h1 h2 hr hr2 hsd
  go_enter Tryd.func8, Tryd.ntmps8
  go_wp2_with fail
  rw [show (#[.int .u8 k, .int .u8 m, .int .i64 p, .int .i64 n, .int .u64 u, .slice A d.length c] : Array Value) = actC ⟨k, m, p, n, u, d⟩ (.slice A d.length c) from rfl, show (#[.int .u8 k, .int .u8 m, .int .i64 p, .int .i64 n, .int .u64 u, .slice A2 d.length c2] : Array Value) = actC ⟨k, m, p, n, u, d⟩ (.slice A2 d.length c2) from rfl, HW1.out]
  go_wp2_with fail
  simp only [k1, Result.andThen]
  go_wp2_with fail
  go_ret
  exact ⟨rfl, HB1.out⟩

theorem textA_len {r : ActV} (h : OkA r) (hl : r.d.length ≤ 2000) (f : Int) : (textA r f).length ≤ 4001 := by
  obtain ⟨_, h1, h2, h3, h4, _, h6⟩ := h
  unfold textA
  split
  · exact Nat.le_trans (decL_length _ (by omega)) (by omega)
  split
  · exact Nat.le_trans (decL_length _ (by omega)) (by omega)
  split
  · unfold hexL
    split
    · simp
    · rw [flat_length]; omega
  split
  · exact Nat.le_trans (decL_length _ (by omega)) (by omega)
  · exact Nat.le_trans (decL_length _ (by omega)) (by omega)
theorem clearA_len {r : ActV} (hl : r.d.length ≤ 2000) (f : Int) : (clearA r f).d.length ≤ 2000 := by
  unfold clearA
  repeat' split
  all_goals simp
  all_goals omega
theorem fold_len : ∀ (fs : List Int) (l : List Int) (r : ActV), OkA r → r.d.length ≤ 2000 → (fs.foldl stepP (l, r)).1.length ≤ l.length + fs.length * 4002
  | [], l, r, _, _ => by simp
  | f :: fs, l, r, h, hl => by
    have ih := fold_len fs (l ++ 32 :: textA r f) (clearA r f) (h.clear f) (clearA_len hl f)
    have := textA_len h hl f
    rw [List.foldl_cons]
    show (fs.foldl stepP (l ++ 32 :: textA r f, clearA r f)).1.length ≤ _
    rw [List.length_append, List.length_cons] at ih
    rw [List.length_cons]
    omega
theorem line_length {a : ActV} {l : List Int} (hk : 0 ≤ a.k ∧ a.k ≤ 255) (hm : 0 ≤ a.m ∧ a.m ≤ 255) (hv : 0 ≤ a.v) (ho : Octets a.d) (hl : a.d.length ≤ 2000) (h : lineP a = some l) : l.length ≤ 13000 := by
  unfold lineP at h
  split at h
  · cases h
  next hn =>
  split at h
  case isFalse => cases h
  injection h with h
  subst h
  rw [not_or, Bool.not_eq_false] at hn
  obtain ⟨_, hin⟩ := hn
  unfold inA at hin
  simp only [Bool.and_eq_true, decide_eq_true_eq] at hin
  have h1 := fold_len (lettersP a.k) (wordP a.k) a ⟨hk, hm, ⟨by omega, by omega⟩, ⟨by omega, by omega⟩, ⟨hv, by omega⟩, ho, by omega⟩ hl
  have h2 := letters_length a.k
  have h3 := word_length a.k
  unfold sumP
  omega

/-- An act that comes in. -/
def actDs : List Fld := [.i .u8, .i .u8, .i .i64, .i .i64, .i .u64, .s .u8]
structure ActM where
  a : ActV
  A : Option Addr
  c : Nat
def ActM.Ok (m : ActM) : Prop := (0 ≤ m.a.k ∧ m.a.k ≤ 255) ∧ (0 ≤ m.a.m ∧ m.a.m ≤ 255) ∧ 0 ≤ m.a.v ∧ Octets m.a.d ∧ m.a.d.length ≤ maxLen
def ActM.cells (m : ActM) : List Value := [.int .u8 m.a.k, .int .u8 m.a.m, .int .i64 m.a.p, .int .i64 m.a.n, .int .u64 m.a.v, .slice m.A m.a.d.length m.c]
theorem act_of {w : World} {B : Nat} {vs : List FVal} (h : allOk w B actDs vs) : ∃ m : ActM, m.Ok ∧ Holds w B .u8 m.A m.a.d ∧ allCells actDs vs = m.cells := by
  match vs, h with
  | [.i k, .i m, .i p, .i n, .i v, .s A c d], ⟨h0, h1, h2, h3, h4, h5, _⟩ =>
    have b4 := bounds_u64 h4
    refine ⟨⟨⟨k, m, p, n, v, d⟩, A, c⟩, ⟨bounds_u8 h0, bounds_u8 h1, b4.1, fun z hz => bounds_u8 (h5.2.2.1 z hz), Nat.le_trans h5.1 h5.2.1⟩, h5.2.2.2, ?_⟩
    simp [allCells, actDs, fvCells, ActM.cells]

/-- The table, where the program lays it. -/
theorem tab_vars {P : Program} {W : World} {name : String} {k : IntKind} {zs : List Int} {rest : List (String × DataW Unit)} {g : Nat} {t e : TypeId} {n : Nat} {ps : List MemPlace}
    (hg : P.globalNamed name = some g) (hty : (P.globals[g]?).map (·.type) = some t) (ht : P.underlying t = some (.array n e)) (he : P.underlying e = some (.int k)) (hce : P.cellsOf e = 1) (hct : P.cellsOf t = n)
    (h : DataW.LaidVars P W ((name, Lib.tabData k zs) :: rest) ps) : Lib.TabIs P W name k zs := by
  obtain ⟨g', t', cs, fuel, p, q, hg', ht', hv, htr, _, _⟩ := h
  obtain rfl := Option.some.inj (hg.symm.trans hg')
  obtain rfl := Option.some.inj (hty.symm.trans ht')
  have hc := Lib.cells_of_tab ht he hce hct htr
  unfold Lib.TabIs
  rw [hv, ← hc]
theorem tab_tail {P : Program} {W : World} {x : String × DataW Unit} {rest : List (String × DataW Unit)} {ps : List MemPlace} (h : DataW.LaidVars P W (x :: rest) ps) : ∃ q, DataW.LaidVars P W rest q := by
  obtain ⟨g', t', cs, fuel, p, q, hg', ht', hv, htr, hrest, _⟩ := h
  exact ⟨q, hrest⟩
theorem tab_of {W : World} (h : laidMetH Tryd.prog [("math/bits.deBruijn32tab", Rows.laid_math_bits_deBruijn32tab), ("math/bits.deBruijn64tab", Rows.laid_math_bits_deBruijn64tab), ("internal/strconv.uint64pow10", Rows.laid_internal_strconv_uint64pow10)] W) : Tab W := by
  rw [MakeChecks.laidMetH_plain _ _ _ (by kernel_rfl)] at h
  obtain ⟨ps, h0, _, _⟩ := h
  obtain ⟨q1, h1⟩ := tab_tail h0
  obtain ⟨q2, h2⟩ := tab_tail h1
  exact tab_vars (k := .u64) (zs := Lib.pow10Tab) (by kernel_rfl : Tryd.prog.globalNamed _ = some 0) (by kernel_rfl : (Tryd.prog.globals[0]?).map (·.type) = some 73) (by kernel_rfl : Tryd.prog.underlying 73 = some (.array 20 22)) Tryd.underlying22 (by kernel_rfl) (by kernel_rfl) h2
end Go.Proofs.YtpdlibegjkbknaaDoor.Tz
