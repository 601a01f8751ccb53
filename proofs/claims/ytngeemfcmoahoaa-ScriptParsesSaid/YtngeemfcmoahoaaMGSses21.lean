/-
  Layer 30, the kind of a first word, as the program finds it: a contract. Conditions: as each theorem names.
  Layer 30, an act, taken word by word: plain. No program. No conditions beyond what each theorem names.
  Layer 30, an act among a line's words, as the program takes it: a contract. Conditions: as each theorem names.
  Layer 30, a script's first line, as the program takes it: a contract. Conditions: as each theorem names.
  Layer 30, rows of acts of a call's own, what the lines told by now, and what is deferred by a line: contracts. Conditions: as each theorem names.
  Layer 30, a line, as the program takes it: its contract. Conditions: as each theorem names.
  Layer 30, the document's first line: a contract. Conditions: as each theorem names.
  Layer 30, a line, as the document reads it: a contract. Conditions: as each theorem names.
  Layer 30, a range over a text's lines, whose iterator keeps what is left in a variable of its own: a law for it. Conditions: as each theorem names.
  Layer 30, script.Parse: its contract. Conditions: as each theorem names.
-/
import Derived.Test.YtngeemfcmoahoaaMGSses16
import Derived.Test.YtngeemfcmoahoaaMTzB
import Derived.Test.YtngeemfcmoahoaaMTyE
import Derived.Lib.ConvBytes
import Derived.Lib.AtoiErrMem
import Derived.Deep.AppendLies
import Derived.Deep.RegionLaw
import Derived.Deep.RegionWith
import Derived.Defers
import Derived.Recover
import Derived.Laws.Pointers
import Derived.RegionTactic
import Derived.Outline
import Derived.Test.YtngeemfcmoahoaaMTvE
import Derived.Deep.Cut
import Derived.Test.YtngeemfcmoahoaaMArr
import Derived.Test.YtngeemfcmoahoaaMGSses2
import Derived.Deep.MidRow
import Derived.Test.YtngeemfcmoahoaaMTvK
import Derived.Deep.RegionHeld3
namespace Go.Proofs.Ytngeemfcmoahoaa.Tv
open Go.ChangeShapes Go.WideShapes Go.ChangeAt Go.RowKit Go.Proofs.Ytngeemfcmoahoaa.Kit Go.Proofs.Ytngeemfcmoahoaa.Tx Go.Proofs.Ytngeemfcmoahoaa.Ty Go.Proofs.Ytngeemfcmoahoaa.Tz

theorem form_word (k : Nat) (h1 : 1 ≤ k) (h2 : k ≤ 10) : ∃ f, formL (wordP k) = some (f, (k : Int)) := by
  obtain rfl | rfl | rfl | rfl | rfl | rfl | rfl | rfl | rfl | rfl : k = 1 ∨ k = 2 ∨ k = 3 ∨ k = 4 ∨ k = 5 ∨ k = 6 ∨ k = 7 ∨ k = 8 ∨ k = 9 ∨ k = 10 := by omega
  all_goals exact ⟨_, rfl⟩
theorem form_none {cs : List Int} (h : ∀ k : Nat, 1 ≤ k → k ≤ 10 → wordP k ≠ cs) : formL cs = none := by
  unfold formL
  rw [if_neg (fun e => h 1 (by omega) (by omega) e.symm), if_neg (fun e => h 2 (by omega) (by omega) e.symm), if_neg (fun e => h 3 (by omega) (by omega) e.symm), if_neg (fun e => h 4 (by omega) (by omega) e.symm), if_neg (fun e => h 5 (by omega) (by omega) e.symm), if_neg (fun e => h 6 (by omega) (by omega) e.symm), if_neg (fun e => h 7 (by omega) (by omega) e.symm), if_neg (fun e => h 8 (by omega) (by omega) e.symm), if_neg (fun e => h 9 (by omega) (by omega) e.symm), if_neg (fun e => h 10 (by omega) (by omega) e.symm)]
def kindE (cs : List Int) : Ending := match formL cs with
  | some (_, k) => .returned (.int .u8 k)
  | none => .panicked [{ v := .iface 71 (.agg #[]), recovered := false }]

set_option maxRecDepth 100000 in
set_option maxHeartbeats 6400000 in
theorem kind_any (s : ByteArray) (w : World) : Calls Try.prog 33 #[.string s] w fun e w' => e = kindE (numsOf s) ∧ w = w' := by
  have GW := Lib.hid (fun k => word_any k w)
  go_enter Try.func33, Try.ntmps33
  go_wp2_with fail
  go_loop [3] (fun u => ∃ k : Nat, 1 ≤ k ∧ k ≤ 11 ∧ u = .int .u8 k ∧ Hid (∀ j : Nat, 1 ≤ j → j < k → wordP j ≠ numsOf s)) (fun u => 11 - (intOf u).toNat)
  case atStart => exact ⟨1, by omega, by omega, rfl, Lib.hid fun j h1 h2 => by omega⟩
  case round =>
    obtain ⟨k, hk1, hk, rfl, HA⟩ := hrel
    by_cases hlt : k ≤ 10
    · have dj : decide ((k : Int) ≤ 10) = true := decide_eq_true (by omega)
      have dj2 : decide (k ≤ 10) = true := decide_eq_true hlt
      have q1 : IntKind.u8.wrap ((k : Int) + 1) = ((k + 1 : Nat) : Int) := by rw [IntKind.wrap_u8]; omega
      have G := GW.out (k : Int)
      obtain ⟨sw, hsw⟩ : ∃ sw, strOfNums (wordP k) = sw := ⟨_, rfl⟩
      have hnw : numsOf sw = wordP k := by rw [← hsw]; exact nums_str (word_octets _)
      rw [hsw] at G
      have GH := Lib.hid G
      by_cases hq : wordP k = numsOf s
      · obtain ⟨f, hf⟩ := form_word k hk1 hlt
        have HE := Lib.hid (show kindE (numsOf s) = .returned (.int .u8 k) by unfold kindE; rw [← hq, hf])
        have hss : sw = s := by rw [← hsw, hq, str_nums]
        subst hss
        have kb : (sw.toList == sw.toList) = true := beq_self_eq_true _
        clear hsw hnw hq hf G
        go_wp2_with fail
        refine GH.out.mono ?_
        rintro e w2 ⟨rfl, hw2⟩
        obtain rfl := hw2
        go_wp2_with fail
        go_ret
        exact ⟨HE.out.symm, rfl⟩
      · have kb : (sw.toList == s.toList) = false := by
          rw [beq_eq_false_iff_ne]
          intro he
          apply hq
          rw [← hnw]
          unfold numsOf
          rw [← ByteArray.toList_eq, ← ByteArray.toList_eq, he]
        have HA2 := Lib.hid (show ∀ j : Nat, 1 ≤ j → j < k + 1 → wordP j ≠ numsOf s by
          intro j h1 h2
          rcases Nat.lt_or_ge j k with h3 | h3
          · exact HA.out j h1 h3
          · obtain rfl : j = k := by omega
            exact hq)
        clear hsw hnw hq G
        go_wp2_with fail
        refine GH.out.mono ?_
        rintro e w2 ⟨rfl, hw2⟩
        obtain rfl := hw2
        go_wp2_with fail
        go_round
        case rel => exact ⟨k + 1, by omega, by omega, by go_num, HA2⟩
        case measure => simp [intOf] <;> omega
    · obtain rfl : k = 11 := by omega
      have HE := Lib.hid (show kindE (numsOf s) = .panicked [{ v := .iface 71 (.agg #[]), recovered := false }] by
        unfold kindE
        rw [form_none (fun j h1 h2 => HA.out j h1 (by omega))])
      go_wp2_with fail
      exact ⟨rfl, HE.out.symm, rfl⟩
end Go.Proofs.Ytngeemfcmoahoaa.Tv

namespace Go.Proofs.Ytngeemfcmoahoaa.Tv
open Go.ChangeShapes Go.WideShapes Go.ChangeAt Go.RowKit Go.Proofs.Ytngeemfcmoahoaa.Kit Go.Proofs.Ytngeemfcmoahoaa.Tx Go.Proofs.Ytngeemfcmoahoaa.Ty Go.Proofs.Ytngeemfcmoahoaa.Tz

/-- A letter's word, taken into an act. -/
def takeA (ws : List (List Int)) (t : Nat) (f : Int) (a : ActV) : Option ActV :=
  if ws.length ≤ t then none
  else if f = 77 then (if numB (ws.getD t []) 255 = true then some { a with m := valN (ws.getD t []) } else none)
  else if f = 86 then (if numB (ws.getD t []) 2147483647 = true then some { a with v := valN (ws.getD t []) } else none)
  else if f = 84 then (if unB (ws.getD t []) = true then some { a with d := unL (ws.getD t []) } else none)
  else if f = 80 then (if numB (ws.getD t []) 2147483647 = true then some { a with p := valN (ws.getD t []) } else none)
  else (if numB (ws.getD t []) 2147483647 = true then some { a with n := valN (ws.getD t []) } else none)
def goA (ws : List (List Int)) : List Int → Nat → ActV → Option ActV
  | [], _, a => some a
  | f :: fs, t, a => match takeA ws t f a with
    | none => none
    | some b => goA ws fs (t + 1) b
def actG (ws : List (List Int)) (k : Int) : Option ActV := match goA ws (lettersP k) 1 ⟨k, 0, 0, 0, 0, []⟩ with
  | none => none
  | some a => if ws.length ≤ (lettersP k).length + 1 then some a else none
theorem goA_short {ws : List (List Int)} : ∀ (fs : List Int) (t : Nat) (a : ActV), ws.length < t + fs.length → 0 < fs.length → goA ws fs t a = none
  | [], t, a, _, h0 => by simp at h0
  | f :: fs, t, a, h, _ => by
    rw [goA]
    cases ht : takeA ws t f a with
    | none => rfl
    | some b =>
      simp only []
      cases fs with
      | nil =>
        exfalso
        unfold takeA at ht
        rw [if_pos (by simp at h; omega)] at ht
        cases ht
      | cons f2 fs2 => exact goA_short (f2 :: fs2) (t + 1) b (by simp at h ⊢; omega) (by simp)
def formF (k : Int) : List Int := if k = 1 then [98, 110, 116] else if k = 2 then [110, 110] else if k = 6 then [110] else if k = 7 then [116] else if k = 8 then [110, 110, 98] else []
theorem form_of {cs : List Int} {f : List Int} {k : Int} (h : formL cs = some (f, k)) : f = formF k ∧ 1 ≤ k ∧ k ≤ 10 := by
  unfold formL at h
  split at h
  · cases h; exact ⟨rfl, by omega, by omega⟩
  split at h
  · cases h; exact ⟨rfl, by omega, by omega⟩
  split at h
  · cases h; exact ⟨rfl, by omega, by omega⟩
  split at h
  · cases h; exact ⟨rfl, by omega, by omega⟩
  split at h
  · cases h; exact ⟨rfl, by omega, by omega⟩
  split at h
  · cases h; exact ⟨rfl, by omega, by omega⟩
  split at h
  · cases h; exact ⟨rfl, by omega, by omega⟩
  split at h
  · cases h; exact ⟨rfl, by omega, by omega⟩
  split at h
  · cases h; exact ⟨rfl, by omega, by omega⟩
  split at h
  · cases h; exact ⟨rfl, by omega, by omega⟩
  · cases h
theorem actG_is (ws : List (List Int)) (k : Int) (h1 : 1 ≤ k) (h2 : k ≤ 10) (h0 : 0 < ws.length) :
    actG ws k = match fieldsL ws (formF k) with | none => none | some (ns, ts) => some (actOf k ns ts) := by
  have hlen : (formF k).length = (lettersP k).length := by
    obtain rfl | rfl | rfl | rfl | rfl | rfl | rfl | rfl | rfl | rfl : k = 1 ∨ k = 2 ∨ k = 3 ∨ k = 4 ∨ k = 5 ∨ k = 6 ∨ k = 7 ∨ k = 8 ∨ k = 9 ∨ k = 10 := by omega
    all_goals rfl
  by_cases hl : ws.length = (lettersP k).length + 1
  · obtain rfl | rfl | rfl | rfl | rfl | rfl | rfl | rfl | rfl | rfl : k = 1 ∨ k = 2 ∨ k = 3 ∨ k = 4 ∨ k = 5 ∨ k = 6 ∨ k = 7 ∨ k = 8 ∨ k = 9 ∨ k = 10 := by omega
    case inl =>
      match ws, hl with
      | [a, b, c, d], _ =>
        by_cases hb : numB b 255 = true <;> by_cases hc : numB c 2147483647 = true <;> by_cases hd : unB d = true <;> simp [actG, goA, takeA, lettersP, fieldsL, formF, stepF, actOf, hb, hc, hd]
    case inr.inl =>
      match ws, hl with
      | [a, b, c], _ =>
        by_cases hb : numB b 2147483647 = true <;> by_cases hc : numB c 2147483647 = true <;> simp [actG, goA, takeA, lettersP, fieldsL, formF, stepF, actOf, hb, hc]
    case inr.inr.inr.inr.inr.inl =>
      match ws, hl with
      | [a, b], _ =>
        by_cases hb : numB b 2147483647 = true <;> simp [actG, goA, takeA, lettersP, fieldsL, formF, stepF, actOf, hb]
    case inr.inr.inr.inr.inr.inr.inl =>
      match ws, hl with
      | [a, b], _ =>
        by_cases hb : unB b = true <;> simp [actG, goA, takeA, lettersP, fieldsL, formF, stepF, actOf, hb]
    case inr.inr.inr.inr.inr.inr.inr.inl =>
      match ws, hl with
      | [a, b, c, d], _ =>
        by_cases hb : numB b 2147483647 = true <;> by_cases hc : numB c 2147483647 = true <;> by_cases hd : numB d 255 = true <;> simp [actG, goA, takeA, lettersP, fieldsL, formF, stepF, actOf, hb, hc, hd]
    all_goals
      match ws, hl with
      | [a], _ => simp [actG, goA, lettersP, fieldsL, formF, actOf]
  · have hf : fieldsL ws (formF k) = none := by unfold fieldsL; rw [if_neg (by omega)]
    rw [hf]
    unfold actG
    rcases Nat.lt_or_ge ws.length ((lettersP k).length + 1) with h | h
    · rw [goA_short _ _ _ (by omega) (by omega)]
    · cases goA ws (lettersP k) 1 ⟨k, 0, 0, 0, 0, []⟩ with
      | none => rfl
      | some a => simp only []; rw [if_neg (by omega)]
/-- What the document's Act tells, by the words. -/
theorem actL_is (cs : List Int) : actL cs = match formL ((wordsL cs).getD 0 []) with
    | none => .error 21
    | some (_, k) => match actG (wordsL cs) k with
      | none => .error 3
      | some a => .ok a := by
  unfold actL
  cases h : formL ((wordsL cs).getD 0 []) with
  | none => rfl
  | some q =>
    obtain ⟨f, k⟩ := q
    obtain ⟨rfl, hk1, hk2⟩ := form_of h
    have h0 : 0 < (wordsL cs).length := List.length_pos_iff.2 (wordsL_ne cs)
    simp only []
    rw [actG_is _ k hk1 hk2 h0]
    cases fieldsL (wordsL cs) (formF k) with
    | none => rfl
    | some q => obtain ⟨ns, ts⟩ := q; rfl
end Go.Proofs.Ytngeemfcmoahoaa.Tv

namespace Go.Proofs.Ytngeemfcmoahoaa.Tv
open Go.Proofs
open Go.ChangeShapes Go.WideShapes Go.ChangeAt Go.RowKit Go.Proofs.Ytngeemfcmoahoaa.Kit Go.Proofs.Ytngeemfcmoahoaa.Tx Go.Proofs.Ytngeemfcmoahoaa.Ty Go.Proofs.Ytngeemfcmoahoaa.Tz

def actD (a : ActV) (v : Value) : Array Value := #[.int .u8 a.k, .int .u8 a.m, .int .i64 a.p, .int .i64 a.n, .int .u64 a.v, v]
def ActP (g : Nat) (ws : List (List Int)) (k : Int) (w : World) (e : Ending) (w' : World) : Prop :=
  TurnsIn (fun b => b = g) w w' ∧ match actG ws k with
  | none => e = thrownF
  | some a => ∃ v, e = .returned (actV a v) ∧ Own w' w.heap.size 5 .u8 v a.d
/-- Between two letters. -/
structure MidA (w wr : World) (g : Nat) (ws : List (List Int)) (k : Int) (j : Nat) (r : ActV) (v : Value) : Prop where
  go : goA ws (lettersP k) 1 ⟨k, 0, 0, 0, 0, []⟩ = goA ws ((lettersP k).drop j) (j + 1) r
  wd : WordsAt wr g ws (j + 1)
  b0 : Block wr w.heap.size 40 (actD zeroA (.slice none 0 0))
  b1 : Block wr (w.heap.size + 1) 40 (actD r v)
  own : Own wr w.heap.size 5 .u8 v r.d
  row : ∀ i, i < (lettersP k).length → wr.cell? ⟨w.heap.size + 2, i, none⟩ = some (.int .u8 ((lettersP k).getD i 0))
  turns : TurnsIn (fun b => b = g) w wr
  size : w.heap.size + 3 ≤ wr.heap.size
  le : j + 1 ≤ ws.length
theorem drop_cons {l : List Int} {j : Nat} {f : Int} (hj : j < l.length) (hf : l.getD j 0 = f) : l.drop j = f :: l.drop (j + 1) := by
  rw [List.drop_eq_getElem_cons hj]
  rw [List.getD_eq_getElem?_getD, List.getElem?_eq_getElem hj] at hf
  have hf' : l[j] = f := hf
  rw [hf']
theorem MidA.none_ {w wr : World} {g : Nat} {ws : List (List Int)} {k : Int} {j : Nat} {r : ActV} {v : Value} (h : MidA w wr g ws k j r v) {f : Int} (hj : j < (lettersP k).length) (hf : (lettersP k).getD j 0 = f) (ht : takeA ws (j + 1) f r = none) : actG ws k = none := by
  unfold actG
  rw [h.go, drop_cons hj hf, goA, ht]
theorem MidA.next {w wr w' : World} {g : Nat} {ws : List (List Int)} {k : Int} {j : Nat} {r r' : ActV} {v v' : Value} (h : MidA w wr g ws k j r v) {f : Int} (hj : j < (lettersP k).length) (hf : (lettersP k).getD j 0 = f) (ht : takeA ws (j + 1) f r = some r')
    (hw : WordsAt w' g ws (j + 2)) (hb : Block w' (w.heap.size + 1) 40 (actD r' v')) (ho : Own w' w.heap.size 5 .u8 v' r'.d) (hT : TurnsIn (fun b => b = g ∨ b = w.heap.size + 1) wr w') (hg : g < w.heap.size) (hlw : j + 2 ≤ ws.length) : MidA w w' g ws k (j + 1) r' v' := by
  refine ⟨?_, hw, h.b0.out hT (by omega), hb, ho, (fun i hi => ?_), h.turns.then_ hT (by omega), Nat.le_trans h.size hT.size, hlw⟩
  · rw [h.go, drop_cons hj hf, goA, ht]
  · rw [World.cell?_of_block (w := wr) (hT.block (w.heap.size + 2) (by have := h.size; omega) (by omega))]
    exact h.row i hi
theorem octets_mem {ws : List (List Int)} (ho : ∀ v ∈ ws, Octets v ∧ v.length ≤ 1000000) (t : Nat) : Octets (ws.getD t []) ∧ (ws.getD t []).length ≤ 1000000 := by
  rw [List.getD_eq_getElem?_getD]
  rcases Nat.lt_or_ge t ws.length with h | h
  · rw [List.getElem?_eq_getElem h]
    exact ho _ (List.getElem_mem h)
  · rw [List.getElem?_eq_none h]
    exact ⟨fun x hx => by simp at hx, by simp⟩
theorem take_short {ws : List (List Int)} {t : Nat} (h : ws.length ≤ t) (f : Int) (a : ActV) : takeA ws t f a = none := by unfold takeA; rw [if_pos h]
theorem took_turns {w w' : World} {g t : Nat} (h : Took w g t w') : TurnsIn (fun b => b = g) w w' := by
  obtain ⟨n, rfl⟩ := h
  exact (((TurnsIn.refl (fun b => b = g) w).setCell (p := ⟨g, 8, none⟩) (.inl rfl) _).drewN 1).drewN n
theorem took_words {w w' : World} {g t : Nat} {ws : List (List Int)} (hw : WordsAt w g ws t) (h : Took w g t w') : WordsAt w' g ws (t + 1) := by
  obtain ⟨n, rfl⟩ := h
  exact hw.taken (t + 1)

set_option maxRecDepth 100000 in
set_option maxHeartbeats 12800000 in
theorem act_any (g : Nat) (ws : List (List Int)) (k : Int) (w : World) (hk : 1 ≤ k ∧ k ≤ 10) (h0 : 0 < ws.length) (hn : ws.length ≤ 1000001) (ho : ∀ v ∈ ws, Octets v ∧ v.length ≤ 1000000) (h : WordsAt w g ws 1) :
    Calls Try.prog 32 #[.pointer (some ⟨g, 0, none⟩), .int .u8 k] w (ActP g ws k w) := by
  have hg := h.lt
  have HO := Lib.hid ho
  obtain ⟨W1, hW1⟩ : ∃ W1, (w.alloc (.cells #[.int .u8 0, .int .u8 0, .int .i64 0, .int .i64 0, .int .u64 0, .slice none 0 0] 40)).alloc (.cells #[.int .u8 k, .int .u8 0, .int .i64 0, .int .i64 0, .int .u64 0, .slice none 0 0] 40) = W1 := ⟨_, rfl⟩
  have a0 : Block W1 w.heap.size 40 (actD zeroA (.slice none 0 0)) := by rw [← hW1]; exact (Block.new w _ _).alloc _
  have a1 : Block W1 (w.heap.size + 1) 40 (actD ⟨k, 0, 0, 0, 0, []⟩ (.slice none 0 0)) := by
    rw [← hW1]
    have := Block.new (w.alloc (.cells #[.int .u8 0, .int .u8 0, .int .i64 0, .int .i64 0, .int .u64 0, .slice none 0 0] 40)) 40 (actD ⟨k, 0, 0, 0, 0, []⟩ (.slice none 0 0))
    rwa [World.size_alloc] at this
  have t1 : TurnsIn (fun b => b = g) w W1 := by rw [← hW1]; exact ((TurnsIn.refl _ w).alloc _).alloc _
  have s1 : W1.heap.size = w.heap.size + 2 := by rw [← hW1]; simp
  have w1 : WordsAt W1 g ws 1 := by rw [← hW1]; exact (Block.alloc (Block.alloc h _) _)
  have HW1 := Lib.hid hW1
  have A0 := Lib.hid a0
  have A1 := Lib.hid a1
  have T1 := Lib.hid t1
  have S1 := Lib.hid s1
  have WD1 := Lib.hid w1
  have GLT := Lib.hid (letters_any k W1)
  obtain ⟨sf, hsf⟩ : ∃ sf, strOfNums (lettersP k) = sf := ⟨_, rfl⟩
  have hnf : sf.size = (lettersP k).length := by rw [← hsf, strOfNums_size]
  have kc := Lib.run_convert_string_bytes (P := Try.prog) W1 9 22 5 sf Try.underlying9 Try.underlying22 Try.underlying5
  have hb3 := Lib.bytesWorld_below W1 5 sf
  have hs3 := Lib.bytesWorld_size W1 5 sf
  have hc3 := Lib.bytesWorld_cell W1 5 sf
  obtain ⟨W3, hW3⟩ : ∃ W3, Lib.bytesWorld W1 5 sf = W3 := ⟨_, rfl⟩
  obtain ⟨cL, hcL⟩ : ∃ cL, grownCap W1 sf.size 0 5 = cL := ⟨_, rfl⟩
  rw [hW3] at kc hb3 hs3 hc3
  rw [hcL, S1.out] at kc
  rw [S1.out] at hs3
  have HROW := Lib.hid (show ∀ i, i < (lettersP k).length → W3.cell? ⟨w.heap.size + 2, i, none⟩ = some (.int .u8 ((lettersP k).getD i 0)) by
    intro i hi
    have h := hc3 i (by rw [hnf]; exact hi)
    rw [S1.out] at h
    have hq : lettersP k = numsOf sf := by rw [← hsf, nums_str (letters_octets _)]
    rw [h, hq]
    unfold numsOf
    rw [List.getD_eq_getElem?_getD, List.getD_eq_getElem?_getD, List.getElem?_map]
    cases sf.data.toList[i]? <;> rfl)
  have MID0 := Lib.hid (show MidA w W3 g ws k 0 ⟨k, 0, 0, 0, 0, []⟩ (.slice none 0 0) from
    ⟨rfl, Block.below WD1.out hb3 (by rw [S1.out]; omega), A0.out.below hb3 (by rw [S1.out]; omega), A1.out.below hb3 (by rw [S1.out]; omega), Own.nil _ _ _ _, HROW.out, T1.out.trans (.ofNew hb3), by omega, h0⟩)
  have HNL := Lib.hid hnf
  rw [hnf] at kc
  obtain ⟨nL, hnL⟩ : ∃ nL, (lettersP k).length = nL := ⟨_, rfl⟩
  have HNN := Lib.hid hnL
  have h3L : nL ≤ 3 := by rw [← hnL]; exact letters_length _
  rw [hnL] at kc
  rw [hsf] at GLT
  clear hb3 hs3 hc3 hW3 hcL hnf hnL hsf hW1 a0 a1 t1 s1 w1 h ho
  go_enter Try.func32, Try.ntmps32
  go_wp2_with fail
  rw [HW1.out]
  refine GLT.out.mono ?_
  rintro e w2 ⟨rfl, hw2⟩
  have hw2' := hw2.symm
  clear hw2
  subst hw2'
  go_wp2_with fail
  clear kc
  go_loopw [14] (fun s wr => ∃ (j : Nat) (r : ActV) (v : Value), j ≤ nL ∧ s = .int .i64 j ∧ MidA w wr g ws k j r v) (fun s _ => nL - (intOf s).toNat)
  case atStart => exact ⟨0, _, _, Nat.zero_le _, rfl, MID0.out⟩
  case round =>
    obtain ⟨j, r, v, hj, rfl, hM⟩ := hrel
    have HM := Lib.hid hM
    have hbk := hM.b1
    have hbel := hM.turns.size
    have hsz := hM.size
    have z0 := hbk.cell 0
    have z1 := hbk.cell 1
    have z2 := hbk.cell 2
    have z3 := hbk.cell 3
    have z4 := hbk.cell 4
    have z5 := hbk.cell 5
    unfold actD at z0 z1 z2 z3 z4 z5
    simp only [List.getElem?_toArray, List.getElem?_cons_zero, List.getElem?_cons_succ] at z0 z1 z2 z3 z4 z5
    obtain ⟨Av, cv, hv, _, _, _⟩ := hM.own.opened
    obtain ⟨n, hn⟩ : ∃ n, r.d.length = n := ⟨_, rfl⟩
    rw [hn] at hv
    subst hv
    clear hn
    by_cases hlt : j < nL
    · have dj : decide ((j : Int) < (nL : Int)) = true := decide_eq_true (by omega)
      have dj2 : decide (j < nL) = true := decide_eq_true hlt
      have cx := hM.row j (by rw [HNN.out]; exact hlt)
      have hmem := letters_mem k ((lettersP k).getD j 0) (by rw [List.getD_eq_getElem?_getD, List.getElem?_eq_getElem (by rw [HNN.out]; exact hlt)]; exact List.getElem_mem _)
      have HJ := Lib.hid (show j < (lettersP k).length by rw [HNN.out]; exact hlt)
      obtain ⟨f, hf⟩ : ∃ f, (lettersP k).getD j 0 = f := ⟨_, rfl⟩
      rw [hf] at cx hmem
      have HFF := Lib.hid hf
      have HLE := Lib.hid hM.le
      have HNO := Lib.hid (fun (f' : Int) (hf' : f = f') ht => HM.out.none_ (f := f') HJ.out (HFF.out.trans hf') ht)
      obtain ⟨rk, rm, rp, rn, rv, rd⟩ := r
      simp only at z0 z1 z2 z3 z4 z5
      have HST := Lib.hid (fun (f' : Int) (hf' : f = f') (r' : ActV) (v' : Value) (w' : World) ht hw hb ho hT hlw => HM.out.next (f := f') (r' := r') (v' := v') (w' := w') HJ.out (HFF.out.trans hf') ht hw hb ho hT hg hlw)
      have hWS := hM.wd
      have HWS := Lib.hid hWS
      have HOC := octets_mem HO.out (j + 1)
      have TEXT := Lib.hid (fun h1 => text_any g (j + 1) ws wr hWS h1 (by omega) HOC.2 HOC.1)
      have NUM := Lib.hid (fun most h1 hm => number_any g (j + 1) ws wr most hWS h1 (by omega) hm HOC.2 HOC.1)
      have NOT := Lib.hid (fun h1 => text_none g (j + 1) ws wr hWS h1)
      have NON := Lib.hid (fun most h1 => number_none g (j + 1) ws wr most hWS h1)
      have HBK := Lib.hid hbk
      have HOW := Lib.hid hM.own
      clear hM hbk hWS HOC hf
      have hlen : ws.length ≤ j + 1 ∨ j + 1 < ws.length := by omega
      have HLN := Lib.hid hlen
      clear hlen
      rcases hmem with rfl | rfl | rfl | rfl | rfl
      · rcases HLN.out with hsh | hln
        · have HN := Lib.hid (HNO.out 77 rfl (take_short hsh _ _))
          have G := Lib.hid (NON.out 255 (.inl hsh))
          clear TEXT NUM NOT NON HBK HOW HST HNO z0 z1 z2 z3 z4 z5
          go_wp2_with fail
          refine G.out.mono ?_
          rintro e w5 ⟨rfl, n5, rfl⟩
          go_wp2_with fail
          refine ⟨rfl, ?_⟩
          unfold ActP
          rw [HN.out]
          exact ⟨HM.out.turns.drewN _, rfl⟩
        · have G := Lib.hid (NUM.out 255 hln (by omega))
          by_cases hq : numB (ws.getD (j + 1) []) 255 = true
          · have HS := Lib.hid (HST.out 77 rfl ⟨rk, valN (ws.getD (j + 1) []), rp, rn, rv, rd⟩)
            have HTK := Lib.hid (show takeA ws (j + 1) 77 ⟨rk, rm, rp, rn, rv, rd⟩ = some ⟨rk, valN (ws.getD (j + 1) []), rp, rn, rv, rd⟩ by unfold takeA; rw [if_neg (by omega)]; simp [hq, -List.getD_eq_getElem?_getD])
            have hv := numB_le hq
            have G2 := Lib.hid (show Calls Try.prog 42 #[.pointer (some ⟨g, 0, none⟩), .int .i64 255] wr fun e w' => e = .returned (.int .i64 (valN (ws.getD (j + 1) []))) ∧ Took wr g (j + 1) w' from G.out.mono (by
              rintro e w' ⟨h1, h2⟩
              rw [if_pos hq] at h1
              exact ⟨h1, h2⟩))
            clear TEXT NUM NOT NON HST HNO G hq z0 z1 z2 z3 z4 z5
            obtain ⟨V, hV⟩ : ∃ V, valN (ws.getD (j + 1) []) = V := ⟨_, rfl⟩
            rw [hV] at HS HTK G2 hv
            clear hV
            have hw8 : IntKind.u8.wrap V = V := by rw [IntKind.wrap_u8]; omega
            go_wp2_with fail
            refine G2.out.mono ?_
            rintro e w5 ⟨rfl, hT5⟩
            have ht5 := took_turns hT5
            have hw5 : WordsAt w5 g ws (j + 2) := took_words HWS.out hT5
            have HOW5 := Lib.hid (HOW.out.out ht5 (fun x hx => by have := HOW.out.lt x hx; omega))
            have bk5 := HBK.out.out ht5 (by omega)
            have g1 := bk5.cell 1
            unfold actD at g1
            simp only [List.getElem?_toArray, List.getElem?_cons_zero, List.getElem?_cons_succ] at g1
            have gf := bk5.frozen 1
            have HBK5 := Lib.hid bk5
            have HT5 := Lib.hid ht5
            have HW5 := Lib.hid hw5
            clear bk5 ht5 hw5 hT5
            go_wp2_with fail
            go_roundw
            case rel =>
              refine ⟨j + 1, _, _, hlt, by go_num, HS.out _ _ HTK.out (Block.far HW5.out (p := ⟨w.heap.size + 1, 1, none⟩) (by simp; omega) _) (HBK5.out.set_ 1 _) (HOW5.out.out ((TurnsIn.refl (fun b => b = w.heap.size + 1) _).setCell (p := ⟨w.heap.size + 1, 1, none⟩) (.inl rfl) _) (fun x hx hx2 => Own.ne_block HOW5.out HBK5.out (by decide) (by rw [hx, hx2]))) (((HT5.out.mono (fun b _ h => .inl h))).setCell (p := ⟨w.heap.size + 1, 1, none⟩) (.inl (.inr rfl)) _) (by omega)⟩
            case measure => simp [intOf] <;> omega
          · have HN := Lib.hid (HNO.out 77 rfl (by unfold takeA; rw [if_neg (by omega)]; simp [hq, -List.getD_eq_getElem?_getD]))
            have G2 := Lib.hid (show Calls Try.prog 42 #[.pointer (some ⟨g, 0, none⟩), .int .i64 255] wr fun e w' => TurnsIn (fun b => b = g) wr w' ∧ e = thrownF from G.out.mono (by
              rintro e w' ⟨h1, h2⟩
              rw [if_neg hq] at h1
              exact ⟨took_turns h2, h1⟩))
            clear TEXT NUM NOT NON HST HNO G hq z0 z1 z2 z3 z4 z5
            unfold thrownF at G2
            go_wp2_with fail
            refine G2.out.mono ?_
            rintro e w5 ⟨ht5, rfl⟩
            have HT5 := Lib.hid ht5
            clear ht5
            go_wp2_with fail
            refine ⟨rfl, ?_⟩
            unfold ActP
            rw [HN.out]
            exact ⟨HM.out.turns.trans HT5.out, rfl⟩
      · rcases HLN.out with hsh | hln
        · have HN := Lib.hid (HNO.out 86 rfl (take_short hsh _ _))
          have G := Lib.hid (NON.out 2147483647 (.inl hsh))
          clear TEXT NUM NOT NON HBK HOW HST HNO z0 z1 z2 z3 z4 z5
          go_wp2_with fail
          refine G.out.mono ?_
          rintro e w5 ⟨rfl, n5, rfl⟩
          go_wp2_with fail
          refine ⟨rfl, ?_⟩
          unfold ActP
          rw [HN.out]
          exact ⟨HM.out.turns.drewN _, rfl⟩
        · have G := Lib.hid (NUM.out 2147483647 hln (by omega))
          by_cases hq : numB (ws.getD (j + 1) []) 2147483647 = true
          · have HS := Lib.hid (HST.out 86 rfl ⟨rk, rm, rp, rn, valN (ws.getD (j + 1) []), rd⟩)
            have HTK := Lib.hid (show takeA ws (j + 1) 86 ⟨rk, rm, rp, rn, rv, rd⟩ = some ⟨rk, rm, rp, rn, valN (ws.getD (j + 1) []), rd⟩ by unfold takeA; rw [if_neg (by omega)]; simp [hq, -List.getD_eq_getElem?_getD])
            have hv := numB_le hq
            have G2 := Lib.hid (show Calls Try.prog 42 #[.pointer (some ⟨g, 0, none⟩), .int .i64 2147483647] wr fun e w' => e = .returned (.int .i64 (valN (ws.getD (j + 1) []))) ∧ Took wr g (j + 1) w' from G.out.mono (by
              rintro e w' ⟨h1, h2⟩
              rw [if_pos hq] at h1
              exact ⟨h1, h2⟩))
            clear TEXT NUM NOT NON HST HNO G hq z0 z1 z2 z3 z4 z5
            obtain ⟨V, hV⟩ : ∃ V, valN (ws.getD (j + 1) []) = V := ⟨_, rfl⟩
            rw [hV] at HS HTK G2 hv
            clear hV
            have hw8 : IntKind.u64.wrap V = V := by rw [IntKind.wrap_u64]; omega
            go_wp2_with fail
            refine G2.out.mono ?_
            rintro e w5 ⟨rfl, hT5⟩
            have ht5 := took_turns hT5
            have hw5 : WordsAt w5 g ws (j + 2) := took_words HWS.out hT5
            have HOW5 := Lib.hid (HOW.out.out ht5 (fun x hx => by have := HOW.out.lt x hx; omega))
            have bk5 := HBK.out.out ht5 (by omega)
            have g4 := bk5.cell 4
            unfold actD at g4
            simp only [List.getElem?_toArray, List.getElem?_cons_zero, List.getElem?_cons_succ] at g4
            have gf := bk5.frozen 4
            have HBK5 := Lib.hid bk5
            have HT5 := Lib.hid ht5
            have HW5 := Lib.hid hw5
            clear bk5 ht5 hw5 hT5
            go_wp2_with fail
            go_roundw
            case rel =>
              refine ⟨j + 1, _, _, hlt, by go_num, HS.out _ _ HTK.out (Block.far HW5.out (p := ⟨w.heap.size + 1, 4, none⟩) (by simp; omega) _) (HBK5.out.set_ 4 _) (HOW5.out.out ((TurnsIn.refl (fun b => b = w.heap.size + 1) _).setCell (p := ⟨w.heap.size + 1, 4, none⟩) (.inl rfl) _) (fun x hx hx2 => Own.ne_block HOW5.out HBK5.out (by decide) (by rw [hx, hx2]))) (((HT5.out.mono (fun b _ h => .inl h))).setCell (p := ⟨w.heap.size + 1, 4, none⟩) (.inl (.inr rfl)) _) (by omega)⟩
            case measure => simp [intOf] <;> omega
          · have HN := Lib.hid (HNO.out 86 rfl (by unfold takeA; rw [if_neg (by omega)]; simp [hq, -List.getD_eq_getElem?_getD]))
            have G2 := Lib.hid (show Calls Try.prog 42 #[.pointer (some ⟨g, 0, none⟩), .int .i64 2147483647] wr fun e w' => TurnsIn (fun b => b = g) wr w' ∧ e = thrownF from G.out.mono (by
              rintro e w' ⟨h1, h2⟩
              rw [if_neg hq] at h1
              exact ⟨took_turns h2, h1⟩))
            clear TEXT NUM NOT NON HST HNO G hq z0 z1 z2 z3 z4 z5
            unfold thrownF at G2
            go_wp2_with fail
            refine G2.out.mono ?_
            rintro e w5 ⟨ht5, rfl⟩
            have HT5 := Lib.hid ht5
            clear ht5
            go_wp2_with fail
            refine ⟨rfl, ?_⟩
            unfold ActP
            rw [HN.out]
            exact ⟨HM.out.turns.trans HT5.out, rfl⟩
      · rcases HLN.out with hsh | hln
        · have HN := Lib.hid (HNO.out 84 rfl (take_short hsh _ _))
          have G := Lib.hid (NOT.out (.inl hsh))
          clear TEXT NUM NOT NON HBK HOW HST HNO z0 z1 z2 z3 z4 z5
          go_wp2_with fail
          refine G.out.mono ?_
          rintro e w5 ⟨rfl, n5, rfl⟩
          go_wp2_with fail
          refine ⟨rfl, ?_⟩
          unfold ActP
          rw [HN.out]
          exact ⟨HM.out.turns.drewN _, rfl⟩
        · have G := Lib.hid (TEXT.out hln)
          by_cases hq : unB (ws.getD (j + 1) []) = true
          · have HS := Lib.hid (HST.out 84 rfl ⟨rk, rm, rp, rn, rv, unL (ws.getD (j + 1) [])⟩)
            have HTK := Lib.hid (show takeA ws (j + 1) 84 ⟨rk, rm, rp, rn, rv, rd⟩ = some ⟨rk, rm, rp, rn, rv, unL (ws.getD (j + 1) [])⟩ by unfold takeA; rw [if_neg (by omega)]; simp [hq, -List.getD_eq_getElem?_getD])
            have hq2 : (if unB (ws.getD (j + 1) []) = true then True else False) := by rw [if_pos hq]; trivial
            have G2 := Lib.hid (show Calls Try.prog 43 #[.pointer (some ⟨g, 0, none⟩)] wr fun e w' => ∃ wt v, Took wr g (j + 1) wt ∧ Below wt.heap.size wt w' ∧ e = .returned v ∧ Own w' wt.heap.size 5 .u8 v (unL (ws.getD (j + 1) [])) from G.out.mono (by
              rintro e w' ⟨wt, h1, h2, h3⟩
              rw [if_pos hq] at h3
              obtain ⟨v, h4, h5⟩ := h3
              exact ⟨wt, v, h1, h2, h4, h5⟩))
            clear TEXT NUM NOT NON HST HNO G hq hq2 z0 z1 z2 z3 z4 z5
            obtain ⟨U, hU⟩ : ∃ U, unL (ws.getD (j + 1) []) = U := ⟨_, rfl⟩
            rw [hU] at HS HTK G2
            clear hU
            go_wp2_with fail
            refine G2.out.mono ?_
            rintro e w5 ⟨wt, v5, hT5, hB5, rfl, ho5⟩
            have ht5 := (took_turns hT5).trans (.ofNew hB5)
            have hw5 : WordsAt w5 g ws (j + 2) := Block.below (took_words HWS.out hT5) hB5 (took_words HWS.out hT5).lt
            have HOW5 := Lib.hid (ho5.mono (B' := w.heap.size) (by have := (took_turns hT5).size; omega))
            have hne5 := ho5.lt
            have hwt5 := (took_turns hT5).size
            obtain ⟨A5, c5, rfl, _, _, _⟩ := ho5.opened
            have bk5 := HBK.out.out ht5 (by omega)
            have g5 := bk5.cell 5
            unfold actD at g5
            simp only [List.getElem?_toArray, List.getElem?_cons_zero, List.getElem?_cons_succ] at g5
            have gf := bk5.frozen 5
            have HBK5 := Lib.hid bk5
            have HT5 := Lib.hid ht5
            have HW5 := Lib.hid hw5
            clear bk5 ht5 hw5 hT5 hB5 ho5
            go_wp2_with fail
            go_roundw
            case rel =>
              refine ⟨j + 1, _, _, hlt, by go_num, HS.out _ _ HTK.out (Block.far HW5.out (p := ⟨w.heap.size + 1, 5, none⟩) (by simp; omega) _) (HBK5.out.set_ 5 _) (HOW5.out.out ((TurnsIn.refl (fun b => b = w.heap.size + 1) _).setCell (p := ⟨w.heap.size + 1, 5, none⟩) (.inl rfl) _) (fun x hx => by have := hne5 x hx; omega)) (((HT5.out.mono (fun b _ h => .inl h))).setCell (p := ⟨w.heap.size + 1, 5, none⟩) (.inl (.inr rfl)) _) (by omega)⟩
            case measure => simp [intOf] <;> omega
          · have HN := Lib.hid (HNO.out 84 rfl (by unfold takeA; rw [if_neg (by omega)]; simp [hq, -List.getD_eq_getElem?_getD]))
            have G2 := Lib.hid (show Calls Try.prog 43 #[.pointer (some ⟨g, 0, none⟩)] wr fun e w' => TurnsIn (fun b => b = g) wr w' ∧ e = thrownF from G.out.mono (by
              rintro e w' ⟨wt, h1, h2, h3⟩
              rw [if_neg hq] at h3
              exact ⟨(took_turns h1).trans (.ofNew h2), h3⟩))
            clear TEXT NUM NOT NON HST HNO G hq z0 z1 z2 z3 z4 z5
            unfold thrownF at G2
            go_wp2_with fail
            refine G2.out.mono ?_
            rintro e w5 ⟨ht5, rfl⟩
            have HT5 := Lib.hid ht5
            clear ht5
            go_wp2_with fail
            refine ⟨rfl, ?_⟩
            unfold ActP
            rw [HN.out]
            exact ⟨HM.out.turns.trans HT5.out, rfl⟩
      · rcases HLN.out with hsh | hln
        · have HN := Lib.hid (HNO.out 80 rfl (take_short hsh _ _))
          have G := Lib.hid (NON.out 2147483647 (.inl hsh))
          clear TEXT NUM NOT NON HBK HOW HST HNO z0 z1 z2 z3 z4 z5
          go_wp2_with fail
          refine G.out.mono ?_
          rintro e w5 ⟨rfl, n5, rfl⟩
          go_wp2_with fail
          refine ⟨rfl, ?_⟩
          unfold ActP
          rw [HN.out]
          exact ⟨HM.out.turns.drewN _, rfl⟩
        · have G := Lib.hid (NUM.out 2147483647 hln (by omega))
          by_cases hq : numB (ws.getD (j + 1) []) 2147483647 = true
          · have HS := Lib.hid (HST.out 80 rfl ⟨rk, rm, valN (ws.getD (j + 1) []), rn, rv, rd⟩)
            have HTK := Lib.hid (show takeA ws (j + 1) 80 ⟨rk, rm, rp, rn, rv, rd⟩ = some ⟨rk, rm, valN (ws.getD (j + 1) []), rn, rv, rd⟩ by unfold takeA; rw [if_neg (by omega)]; simp [hq, -List.getD_eq_getElem?_getD])
            have hv := numB_le hq
            have G2 := Lib.hid (show Calls Try.prog 42 #[.pointer (some ⟨g, 0, none⟩), .int .i64 2147483647] wr fun e w' => e = .returned (.int .i64 (valN (ws.getD (j + 1) []))) ∧ Took wr g (j + 1) w' from G.out.mono (by
              rintro e w' ⟨h1, h2⟩
              rw [if_pos hq] at h1
              exact ⟨h1, h2⟩))
            clear TEXT NUM NOT NON HST HNO G hq z0 z1 z2 z3 z4 z5
            obtain ⟨V, hV⟩ : ∃ V, valN (ws.getD (j + 1) []) = V := ⟨_, rfl⟩
            rw [hV] at HS HTK G2 hv
            clear hV
            go_wp2_with fail
            refine G2.out.mono ?_
            rintro e w5 ⟨rfl, hT5⟩
            have ht5 := took_turns hT5
            have hw5 : WordsAt w5 g ws (j + 2) := took_words HWS.out hT5
            have HOW5 := Lib.hid (HOW.out.out ht5 (fun x hx => by have := HOW.out.lt x hx; omega))
            have bk5 := HBK.out.out ht5 (by omega)
            have g2 := bk5.cell 2
            unfold actD at g2
            simp only [List.getElem?_toArray, List.getElem?_cons_zero, List.getElem?_cons_succ] at g2
            have gf := bk5.frozen 2
            have HBK5 := Lib.hid bk5
            have HT5 := Lib.hid ht5
            have HW5 := Lib.hid hw5
            clear bk5 ht5 hw5 hT5
            go_wp2_with fail
            go_roundw
            case rel =>
              refine ⟨j + 1, _, _, hlt, by go_num, HS.out _ _ HTK.out (Block.far HW5.out (p := ⟨w.heap.size + 1, 2, none⟩) (by simp; omega) _) (HBK5.out.set_ 2 _) (HOW5.out.out ((TurnsIn.refl (fun b => b = w.heap.size + 1) _).setCell (p := ⟨w.heap.size + 1, 2, none⟩) (.inl rfl) _) (fun x hx hx2 => Own.ne_block HOW5.out HBK5.out (by decide) (by rw [hx, hx2]))) (((HT5.out.mono (fun b _ h => .inl h))).setCell (p := ⟨w.heap.size + 1, 2, none⟩) (.inl (.inr rfl)) _) (by omega)⟩
            case measure => simp [intOf] <;> omega
          · have HN := Lib.hid (HNO.out 80 rfl (by unfold takeA; rw [if_neg (by omega)]; simp [hq, -List.getD_eq_getElem?_getD]))
            have G2 := Lib.hid (show Calls Try.prog 42 #[.pointer (some ⟨g, 0, none⟩), .int .i64 2147483647] wr fun e w' => TurnsIn (fun b => b = g) wr w' ∧ e = thrownF from G.out.mono (by
              rintro e w' ⟨h1, h2⟩
              rw [if_neg hq] at h1
              exact ⟨took_turns h2, h1⟩))
            clear TEXT NUM NOT NON HST HNO G hq z0 z1 z2 z3 z4 z5
            unfold thrownF at G2
            go_wp2_with fail
            refine G2.out.mono ?_
            rintro e w5 ⟨ht5, rfl⟩
            have HT5 := Lib.hid ht5
            clear ht5
            go_wp2_with fail
            refine ⟨rfl, ?_⟩
            unfold ActP
            rw [HN.out]
            exact ⟨HM.out.turns.trans HT5.out, rfl⟩
      · rcases HLN.out with hsh | hln
        · have HN := Lib.hid (HNO.out 78 rfl (take_short hsh _ _))
          have G := Lib.hid (NON.out 2147483647 (.inl hsh))
          clear TEXT NUM NOT NON HBK HOW HST HNO z0 z1 z2 z3 z4 z5
          go_wp2_with fail
          refine G.out.mono ?_
          rintro e w5 ⟨rfl, n5, rfl⟩
          go_wp2_with fail
          refine ⟨rfl, ?_⟩
          unfold ActP
          rw [HN.out]
          exact ⟨HM.out.turns.drewN _, rfl⟩
        · have G := Lib.hid (NUM.out 2147483647 hln (by omega))
          by_cases hq : numB (ws.getD (j + 1) []) 2147483647 = true
          · have HS := Lib.hid (HST.out 78 rfl ⟨rk, rm, rp, valN (ws.getD (j + 1) []), rv, rd⟩)
            have HTK := Lib.hid (show takeA ws (j + 1) 78 ⟨rk, rm, rp, rn, rv, rd⟩ = some ⟨rk, rm, rp, valN (ws.getD (j + 1) []), rv, rd⟩ by unfold takeA; rw [if_neg (by omega)]; simp [hq, -List.getD_eq_getElem?_getD])
            have hv := numB_le hq
            have G2 := Lib.hid (show Calls Try.prog 42 #[.pointer (some ⟨g, 0, none⟩), .int .i64 2147483647] wr fun e w' => e = .returned (.int .i64 (valN (ws.getD (j + 1) []))) ∧ Took wr g (j + 1) w' from G.out.mono (by
              rintro e w' ⟨h1, h2⟩
              rw [if_pos hq] at h1
              exact ⟨h1, h2⟩))
            clear TEXT NUM NOT NON HST HNO G hq z0 z1 z2 z3 z4 z5
            obtain ⟨V, hV⟩ : ∃ V, valN (ws.getD (j + 1) []) = V := ⟨_, rfl⟩
            rw [hV] at HS HTK G2 hv
            clear hV
            go_wp2_with fail
            refine G2.out.mono ?_
            rintro e w5 ⟨rfl, hT5⟩
            have ht5 := took_turns hT5
            have hw5 : WordsAt w5 g ws (j + 2) := took_words HWS.out hT5
            have HOW5 := Lib.hid (HOW.out.out ht5 (fun x hx => by have := HOW.out.lt x hx; omega))
            have bk5 := HBK.out.out ht5 (by omega)
            have g3 := bk5.cell 3
            unfold actD at g3
            simp only [List.getElem?_toArray, List.getElem?_cons_zero, List.getElem?_cons_succ] at g3
            have gf := bk5.frozen 3
            have HBK5 := Lib.hid bk5
            have HT5 := Lib.hid ht5
            have HW5 := Lib.hid hw5
            clear bk5 ht5 hw5 hT5
            go_wp2_with fail
            go_roundw
            case rel =>
              refine ⟨j + 1, _, _, hlt, by go_num, HS.out _ _ HTK.out (Block.far HW5.out (p := ⟨w.heap.size + 1, 3, none⟩) (by simp; omega) _) (HBK5.out.set_ 3 _) (HOW5.out.out ((TurnsIn.refl (fun b => b = w.heap.size + 1) _).setCell (p := ⟨w.heap.size + 1, 3, none⟩) (.inl rfl) _) (fun x hx hx2 => Own.ne_block HOW5.out HBK5.out (by decide) (by rw [hx, hx2]))) (((HT5.out.mono (fun b _ h => .inl h))).setCell (p := ⟨w.heap.size + 1, 3, none⟩) (.inl (.inr rfl)) _) (by omega)⟩
            case measure => simp [intOf] <;> omega
          · have HN := Lib.hid (HNO.out 78 rfl (by unfold takeA; rw [if_neg (by omega)]; simp [hq, -List.getD_eq_getElem?_getD]))
            have G2 := Lib.hid (show Calls Try.prog 42 #[.pointer (some ⟨g, 0, none⟩), .int .i64 2147483647] wr fun e w' => TurnsIn (fun b => b = g) wr w' ∧ e = thrownF from G.out.mono (by
              rintro e w' ⟨h1, h2⟩
              rw [if_neg hq] at h1
              exact ⟨took_turns h2, h1⟩))
            clear TEXT NUM NOT NON HST HNO G hq z0 z1 z2 z3 z4 z5
            unfold thrownF at G2
            go_wp2_with fail
            refine G2.out.mono ?_
            rintro e w5 ⟨ht5, rfl⟩
            have HT5 := Lib.hid ht5
            clear ht5
            go_wp2_with fail
            refine ⟨rfl, ?_⟩
            unfold ActP
            rw [HN.out]
            exact ⟨HM.out.turns.trans HT5.out, rfl⟩
    · obtain rfl : j = nL := by omega
      have dj : decide ((j : Int) < (j : Int)) = false := decide_eq_false (by omega)
      have dj2 : decide (j < j) = false := decide_eq_false (by omega)
      have HGO := Lib.hid (show goA ws (lettersP k) 1 ⟨k, 0, 0, 0, 0, []⟩ = some r by
        rw [hM.go, List.drop_of_length_le (by rw [HNN.out]; exact Nat.le_refl _)]; rfl)
      have hwd := hM.wd
      have HT := Lib.hid hM.turns
      have HOW := Lib.hid hM.own
      have HB0 := Lib.hid hM.b0
      have HBK := Lib.hid hbk
      by_cases hen : ws.length ≤ j + 1
      · have HA := Lib.hid (show actG ws k = some r by unfold actG; rw [HGO.out]; simp only []; rw [if_pos (by rw [HNN.out]; exact hen)])
        have G := Lib.hid (end_ok g (j + 1) ws wr hwd hen)
        obtain ⟨rk, rm, rp, rn, rv, rd⟩ := r
        simp only at z0 z1 z2 z3 z4 z5
        have z00 := fun n => (HB0.out.drewN n).cell 0
        have zf := fun n i => (HB0.out.drewN n).frozen i
        have y0 := fun n => (HB0.out.drewN n).cell 0
        have y1 := fun n => (HB0.out.drewN n).cell 1
        have y2 := fun n => (HB0.out.drewN n).cell 2
        have y3 := fun n => (HB0.out.drewN n).cell 3
        have y4 := fun n => (HB0.out.drewN n).cell 4
        have y5 := fun n => (HB0.out.drewN n).cell 5
        unfold actD zeroA at y0 y1 y2 y3 y4 y5
        simp only [List.getElem?_toArray, List.getElem?_cons_zero, List.getElem?_cons_succ] at y0 y1 y2 y3 y4 y5
        clear hM hbk hwd hen z00
        go_wp2_with fail
        refine G.out.mono ?_
        rintro e w5 ⟨rfl, n5, rfl⟩
        go_wp2_with fail
        have t5 : TurnsIn (fun b => b = w.heap.size) wr ((((((((wr.drewN n5).setCell ⟨w.heap.size, 0, none⟩ (.int .u8 rk)).setCell ⟨w.heap.size, 1, none⟩ (.int .u8 rm)).setCell ⟨w.heap.size, 2, none⟩ (.int .i64 rp)).setCell ⟨w.heap.size, 3, none⟩ (.int .i64 rn)).setCell ⟨w.heap.size, 4, none⟩ (.int .u64 rv)).setCell ⟨w.heap.size, 5, none⟩ (.slice Av n cv))) :=
          ((((((((TurnsIn.refl (fun b => b = w.heap.size) wr).drewN n5).setCell (p := ⟨w.heap.size, 0, none⟩) (.inl rfl) _).setCell (p := ⟨w.heap.size, 1, none⟩) (.inl rfl) _).setCell (p := ⟨w.heap.size, 2, none⟩) (.inl rfl) _).setCell (p := ⟨w.heap.size, 3, none⟩) (.inl rfl) _).setCell (p := ⟨w.heap.size, 4, none⟩) (.inl rfl) _).setCell (p := ⟨w.heap.size, 5, none⟩) (.inl rfl) _)
        have b5 := ((((((Block.drewN HB0.out n5).set_ 0 (.int .u8 rk)).set_ 1 (.int .u8 rm)).set_ 2 (.int .i64 rp)).set_ 3 (.int .i64 rn)).set_ 4 (.int .u64 rv)).set_ 5 (.slice Av n cv)
        have b6 : Block (((((((wr.drewN n5).setCell ⟨w.heap.size, 0, none⟩ (.int .u8 rk)).setCell ⟨w.heap.size, 1, none⟩ (.int .u8 rm)).setCell ⟨w.heap.size, 2, none⟩ (.int .i64 rp)).setCell ⟨w.heap.size, 3, none⟩ (.int .i64 rn)).setCell ⟨w.heap.size, 4, none⟩ (.int .u64 rv)).setCell ⟨w.heap.size, 5, none⟩ (.slice Av n cv)) w.heap.size 40 #[.int .u8 rk, .int .u8 rm, .int .i64 rp, .int .i64 rn, .int .u64 rv, .slice Av n cv] := b5
        clear b5 y0 y1 y2 y3 y4 y5 zf z0 z1 z2 z3 z4 z5
        generalize ((((((wr.drewN n5).setCell ⟨w.heap.size, 0, none⟩ (.int .u8 rk)).setCell ⟨w.heap.size, 1, none⟩ (.int .u8 rm)).setCell ⟨w.heap.size, 2, none⟩ (.int .i64 rp)).setCell ⟨w.heap.size, 3, none⟩ (.int .i64 rn)).setCell ⟨w.heap.size, 4, none⟩ (.int .u64 rv)).setCell ⟨w.heap.size, 5, none⟩ (.slice Av n cv) = w6 at *
        have r0 : w6.cell? ⟨w.heap.size, 0, none⟩ = some (.int .u8 rk) := b6.cell 0
        have r1 : w6.cell? ⟨w.heap.size, 1, none⟩ = some (.int .u8 rm) := b6.cell 1
        have r2 : w6.cell? ⟨w.heap.size, 2, none⟩ = some (.int .i64 rp) := b6.cell 2
        have r3 : w6.cell? ⟨w.heap.size, 3, none⟩ = some (.int .i64 rn) := b6.cell 3
        have r4 : w6.cell? ⟨w.heap.size, 4, none⟩ = some (.int .u64 rv) := b6.cell 4
        have r5 : w6.cell? ⟨w.heap.size, 5, none⟩ = some (.slice Av n cv) := b6.cell 5
        refine bodyPost_ret (v := .agg #[.int .u8 rk, .int .u8 rm, .int .i64 rp, .int .i64 rn, .int .u64 rv, .slice Av n cv]) ?_ rfl ?_
        · simp [results, Try.results32, go_sem, r0, r1, r2, r3, r4, r5]
        · unfold ActP
          rw [HA.out]
          exact ⟨HT.out.then_ t5 (by omega), _, rfl, HOW.out.out t5 (fun x hx hx2 => Own.ne_block HOW.out HB0.out (by decide) (by rw [hx, hx2]))⟩
      · have HN := Lib.hid (show actG ws k = none by unfold actG; rw [HGO.out]; simp only []; rw [if_neg (by rw [HNN.out]; exact hen)])
        have G := Lib.hid (end_no g (j + 1) ws wr hwd (by omega))
        clear hM hbk hwd hen z0 z1 z2 z3 z4 z5
        go_wp2_with fail
        refine G.out.mono ?_
        rintro e w5 ⟨rfl, n5, rfl⟩
        go_wp2_with fail
        refine ⟨rfl, ?_⟩
        unfold ActP
        rw [HN.out]
        exact ⟨HT.out.drewN _, rfl⟩
end Go.Proofs.Ytngeemfcmoahoaa.Tv

namespace Go.Proofs.Ytngeemfcmoahoaa.Tv
open Go.ChangeShapes Go.WideShapes Go.ChangeAt Go.RowKit Go.Proofs.Ytngeemfcmoahoaa.Kit Go.Proofs.Ytngeemfcmoahoaa.Tx Go.Proofs.Ytngeemfcmoahoaa.Ty Go.Proofs.Ytngeemfcmoahoaa.Tz

def okN (ws : List (List Int)) (t : Nat) : Prop := t < ws.length ∧ numB (ws.getD t []) 2147483647 = true
def okT (ws : List (List Int)) (t : Nat) : Prop := t < ws.length ∧ unB (ws.getD t []) = true
theorem world_yes {ws : List (List Int)} (h1 : okN ws 1) (h2 : okN ws 2) (h3 : okN ws 3) (h4 : okN ws 4) (h5 : okT ws 5) (h6 : okT ws 6) (h7 : ws.length ≤ 7) :
    fieldsL ws worldF = some ([valN (ws.getD 1 []), valN (ws.getD 2 []), valN (ws.getD 3 []), valN (ws.getD 4 [])], [unL (ws.getD 5 []), unL (ws.getD 6 [])]) := by
  have hl : ws.length = 7 := by have := h6.1; omega
  match ws, hl with
  | [a, b, c, d, e, f, g], _ =>
    have k1 : numB b 2147483647 = true := h1.2
    have k2 : numB c 2147483647 = true := h2.2
    have k3 : numB d 2147483647 = true := h3.2
    have k4 : numB e 2147483647 = true := h4.2
    have k5 : unB f = true := h5.2
    have k6 : unB g = true := h6.2
    simp [fieldsL, worldF, stepF, k1, k2, k3, k4, k5, k6]
theorem world_no {ws : List (List Int)} (h : ¬ okN ws 1 ∨ ¬ okN ws 2 ∨ ¬ okN ws 3 ∨ ¬ okN ws 4 ∨ ¬ okT ws 5 ∨ ¬ okT ws 6 ∨ 7 < ws.length) : fieldsL ws worldF = none := by
  by_cases hl : ws.length = 7
  · match ws, hl with
    | [a, b, c, d, e, f, g], _ =>
      have h' : ¬ numB b 2147483647 = true ∨ ¬ numB c 2147483647 = true ∨ ¬ numB d 2147483647 = true ∨ ¬ numB e 2147483647 = true ∨ ¬ unB f = true ∨ ¬ unB g = true := by
        simp only [okN, okT] at h
        simpa using h
      by_cases k1 : numB b 2147483647 = true
      · by_cases k2 : numB c 2147483647 = true
        · by_cases k3 : numB d 2147483647 = true
          · by_cases k4 : numB e 2147483647 = true
            · by_cases k5 : unB f = true
              · have k6 : ¬ unB g = true := by
                  rcases h' with h | h | h | h | h | h
                  · exact absurd k1 h
                  · exact absurd k2 h
                  · exact absurd k3 h
                  · exact absurd k4 h
                  · exact absurd k5 h
                  · exact h
                simp [fieldsL, worldF, stepF, k1, k2, k3, k4, k5, k6]
              · simp [fieldsL, worldF, stepF, k1, k2, k3, k4, k5]
            · simp [fieldsL, worldF, stepF, k1, k2, k3, k4]
          · simp [fieldsL, worldF, stepF, k1, k2, k3]
        · simp [fieldsL, worldF, stepF, k1, k2]
      · simp [fieldsL, worldF, stepF, k1]
  · unfold fieldsL
    rw [if_neg (by simpa [worldF] using hl)]

section
variable {g t : Nat} {ws : List (List Int)}
theorem num_ok (ho : ∀ v ∈ ws, Octets v ∧ v.length ≤ 1000000) (h7 : t < 7) (hk : okN ws t) (W : World) (h : WordsAt W g ws t) :
    Calls Try.prog 42 #[.pointer (some ⟨g, 0, none⟩), .int .i64 2147483647] W fun e w' => e = .returned (.int .i64 (valN (ws.getD t []))) ∧ Took W g t w' :=
  (number_any g t ws W 2147483647 h hk.1 h7 (by omega) (octets_mem ho t).2 (octets_mem ho t).1).mono fun e w' hh => ⟨by have := hh.1; rwa [if_pos hk.2] at this, hh.2⟩
theorem num_no (ho : ∀ v ∈ ws, Octets v ∧ v.length ≤ 1000000) (h7 : t < 7) (hk : ¬ okN ws t) (W : World) (h : WordsAt W g ws t) :
    Calls Try.prog 42 #[.pointer (some ⟨g, 0, none⟩), .int .i64 2147483647] W fun e w' => e = thrownF ∧ TurnsIn (fun b => b = g) W w' := by
  by_cases hs : t < ws.length
  · exact (number_any g t ws W 2147483647 h hs h7 (by omega) (octets_mem ho t).2 (octets_mem ho t).1).mono fun e w' hh => ⟨by have := hh.1; rwa [if_neg (fun hb => hk ⟨hs, hb⟩)] at this, took_turns hh.2⟩
  · refine (number_none g t ws W 2147483647 h (.inl (by omega))).mono ?_
    rintro e w' ⟨rfl, n, rfl⟩
    exact ⟨rfl, (TurnsIn.refl _ _).drewN n⟩
theorem txt_ok (ho : ∀ v ∈ ws, Octets v ∧ v.length ≤ 1000000) (h7 : t < 7) (hk : okT ws t) (W : World) (h : WordsAt W g ws t) :
    Calls Try.prog 43 #[.pointer (some ⟨g, 0, none⟩)] W fun e w' => ∃ A c, e = .returned (.slice A (unL (ws.getD t [])).length c) ∧ WordsAt w' g ws (t + 1) ∧ TurnsIn (fun b => b = g) W w' ∧ Own w' W.heap.size 5 .u8 (.slice A (unL (ws.getD t [])).length c) (unL (ws.getD t [])) := by
  refine (text_any g t ws W h hk.1 h7 (octets_mem ho t).2 (octets_mem ho t).1).mono ?_
  rintro e w' ⟨wt, h1, h2, h3⟩
  rw [if_pos hk.2] at h3
  obtain ⟨v, h4, h5⟩ := h3
  obtain ⟨A, c, rfl, _, _, _⟩ := h5.opened
  exact ⟨A, c, h4, Block.below (took_words h h1) h2 (took_words h h1).lt, (took_turns h1).trans (.ofNew h2), h5.mono (took_turns h1).size⟩
theorem txt_no (ho : ∀ v ∈ ws, Octets v ∧ v.length ≤ 1000000) (h7 : t < 7) (hk : ¬ okT ws t) (W : World) (h : WordsAt W g ws t) :
    Calls Try.prog 43 #[.pointer (some ⟨g, 0, none⟩)] W fun e w' => e = thrownF ∧ TurnsIn (fun b => b = g) W w' := by
  by_cases hs : t < ws.length
  · refine (text_any g t ws W h hs h7 (octets_mem ho t).2 (octets_mem ho t).1).mono ?_
    rintro e w' ⟨wt, h1, h2, h3⟩
    rw [if_neg (fun hb => hk ⟨hs, hb⟩)] at h3
    exact ⟨h3, (took_turns h1).trans (.ofNew h2)⟩
  · refine (text_none g t ws W h (.inl (by omega))).mono ?_
    rintro e w' ⟨rfl, n, rfl⟩
    exact ⟨rfl, (TurnsIn.refl _ _).drewN n⟩
end
def cellsP (b : Bool) (c0 c1 c2 : Int) (vs vi : Value) (v : Int) (va : Value) : Array Value := #[.bool b, .int .i64 c0, .int .i64 c1, .int .i64 c2, vs, vi, .int .u64 v, va]
def WorldQ (g gp : Nat) (ws : List (List Int)) (va : Value) (w : World) (e : Ending) (w' : World) : Prop :=
  TurnsIn (fun b => b = g ∨ b = gp) w w' ∧ match fieldsL ws worldF with
  | none => e = thrownF
  | some (ns, ts) => e = .returned (.tuple #[]) ∧ ∃ vs vi, Block w' gp 56 (cellsP true (ns.getD 0 0) (ns.getD 1 0) (ns.getD 2 0) vs vi (ns.getD 3 0) va) ∧ Own w' w.heap.size 5 .u8 vs (ts.getD 0 []) ∧ Own w' w.heap.size 5 .u8 vi (ts.getD 1 [])
theorem WorldQ.no {g gp : Nat} {ws : List (List Int)} {va : Value} {w w' : World} {e : Ending} (hf : fieldsL ws worldF = none) (he : e = thrownF) (ht : TurnsIn (fun b => b = g ∨ b = gp) w w') : WorldQ g gp ws va w e w' := by
  unfold WorldQ
  rw [hf]
  exact ⟨ht, he⟩

set_option maxRecDepth 100000 in
set_option maxHeartbeats 12800000 in
theorem world_any (g gp : Nat) (ws : List (List Int)) (b0 : Bool) (c0 c1 c2 v0 : Int) (As Ai Aa : Option Addr) (ns cs ni ci na ca : Nat) (w : World) (ho : ∀ v ∈ ws, Octets v ∧ v.length ≤ 1000000) (hne : g ≠ gp) (h : WordsAt w g ws 1)
    (hp : Block w gp 56 (cellsP b0 c0 c1 c2 (.slice As ns cs) (.slice Ai ni ci) v0 (.slice Aa na ca))) :
    Calls Try.prog 34 #[.pointer (some ⟨gp, 0, none⟩), .pointer (some ⟨g, 0, none⟩)] w (WorldQ g gp ws (.slice Aa na ca) w) := by
  have HO := Lib.hid ho
  have HWD := Lib.hid h
  have HBP := Lib.hid hp
  have HT := Lib.hid (TurnsIn.refl (fun b => b = g ∨ b = gp) w)
  have hng := Ne.symm hne
  clear ho h hp
  by_cases hk1 : okN ws 1
  case neg =>
    have HF := Lib.hid (world_no (ws := ws) (.inl hk1))
    go_enter Try.func34, Try.ntmps34
    go_wp2_with fail
    have hwd0 := HWD.out
    have hbp0 := HBP.out
    have htt0 := HT.out
    have G := num_no HO.out (t := 1) (by omega) hk1 _ hwd0
    unfold thrownF at G
    refine G.mono ?_
    rintro e w9 ⟨rfl, ht9⟩
    have HT9 := Lib.hid ht9
    have HTT := Lib.hid htt0
    clear ht9 G
    go_wp2_with fail
    exact ⟨rfl, WorldQ.no HF.out rfl (HTT.out.trans (HT9.out.mono fun b _ hb => .inl hb))⟩
  by_cases hk2 : okN ws 2
  case neg =>
    have HF := Lib.hid (world_no (ws := ws) (.inr (.inl hk2)))
    go_enter Try.func34, Try.ntmps34
    go_wp2_with fail
    have hwd0 := HWD.out
    have hbp0 := HBP.out
    have htt0 := HT.out
    refine (num_ok HO.out (t := 1) (by omega) hk1 _ hwd0).mono ?_
    rintro e w0 ⟨rfl, hk⟩
    have hw0 := took_words hwd0 hk
    have ht0 := took_turns hk
    clear hk
    obtain ⟨V1, hV1⟩ : ∃ V, valN (ws.getD 1 []) = V := ⟨_, rfl⟩
    rw [hV1]
    have HV1 := Lib.hid hV1
    clear hV1
    have hb0 := hbp0.out ht0 hng
    have hT0 := htt0.trans (ht0.mono fun b _ hb => .inl hb)
    have HW0 := Lib.hid hw0
    have HB0 := Lib.hid hb0
    have HTT0 := Lib.hid hT0
    clear hwd0 hbp0 htt0 hw0 hb0 ht0 hT0
    go_wp2_with fail
    have hwd1 := HW0.out
    have hbp1 := HB0.out
    have htt1 := HTT0.out
    have G := num_no HO.out (t := 2) (by omega) hk2 _ hwd1
    unfold thrownF at G
    refine G.mono ?_
    rintro e w9 ⟨rfl, ht9⟩
    have HT9 := Lib.hid ht9
    have HTT := Lib.hid htt1
    clear ht9 G
    go_wp2_with fail
    exact ⟨rfl, WorldQ.no HF.out rfl (HTT.out.trans (HT9.out.mono fun b _ hb => .inl hb))⟩
  by_cases hk3 : okN ws 3
  case neg =>
    have HF := Lib.hid (world_no (ws := ws) (.inr (.inr (.inl hk3))))
    go_enter Try.func34, Try.ntmps34
    go_wp2_with fail
    have hwd0 := HWD.out
    have hbp0 := HBP.out
    have htt0 := HT.out
    refine (num_ok HO.out (t := 1) (by omega) hk1 _ hwd0).mono ?_
    rintro e w0 ⟨rfl, hk⟩
    have hw0 := took_words hwd0 hk
    have ht0 := took_turns hk
    clear hk
    obtain ⟨V1, hV1⟩ : ∃ V, valN (ws.getD 1 []) = V := ⟨_, rfl⟩
    rw [hV1]
    have HV1 := Lib.hid hV1
    clear hV1
    have hb0 := hbp0.out ht0 hng
    have hT0 := htt0.trans (ht0.mono fun b _ hb => .inl hb)
    have HW0 := Lib.hid hw0
    have HB0 := Lib.hid hb0
    have HTT0 := Lib.hid hT0
    clear hwd0 hbp0 htt0 hw0 hb0 ht0 hT0
    go_wp2_with fail
    have hwd1 := HW0.out
    have hbp1 := HB0.out
    have htt1 := HTT0.out
    refine (num_ok HO.out (t := 2) (by omega) hk2 _ hwd1).mono ?_
    rintro e w1 ⟨rfl, hk⟩
    have hw1 := took_words hwd1 hk
    have ht1 := took_turns hk
    clear hk
    obtain ⟨V2, hV2⟩ : ∃ V, valN (ws.getD 2 []) = V := ⟨_, rfl⟩
    rw [hV2]
    have HV2 := Lib.hid hV2
    clear hV2
    have hb1 := hbp1.out ht1 hng
    have hT1 := htt1.trans (ht1.mono fun b _ hb => .inl hb)
    have HW1 := Lib.hid hw1
    have HB1 := Lib.hid hb1
    have HTT1 := Lib.hid hT1
    clear hwd1 hbp1 htt1 hw1 hb1 ht1 hT1
    go_wp2_with fail
    have hwd2 := HW1.out
    have hbp2 := HB1.out
    have htt2 := HTT1.out
    have G := num_no HO.out (t := 3) (by omega) hk3 _ hwd2
    unfold thrownF at G
    refine G.mono ?_
    rintro e w9 ⟨rfl, ht9⟩
    have HT9 := Lib.hid ht9
    have HTT := Lib.hid htt2
    clear ht9 G
    go_wp2_with fail
    exact ⟨rfl, WorldQ.no HF.out rfl (HTT.out.trans (HT9.out.mono fun b _ hb => .inl hb))⟩
  by_cases hk4 : okN ws 4
  case neg =>
    have HF := Lib.hid (world_no (ws := ws) (.inr (.inr (.inr (.inl hk4)))))
    go_enter Try.func34, Try.ntmps34
    go_wp2_with fail
    have hwd0 := HWD.out
    have hbp0 := HBP.out
    have htt0 := HT.out
    refine (num_ok HO.out (t := 1) (by omega) hk1 _ hwd0).mono ?_
    rintro e w0 ⟨rfl, hk⟩
    have hw0 := took_words hwd0 hk
    have ht0 := took_turns hk
    clear hk
    obtain ⟨V1, hV1⟩ : ∃ V, valN (ws.getD 1 []) = V := ⟨_, rfl⟩
    rw [hV1]
    have HV1 := Lib.hid hV1
    clear hV1
    have hb0 := hbp0.out ht0 hng
    have hT0 := htt0.trans (ht0.mono fun b _ hb => .inl hb)
    have HW0 := Lib.hid hw0
    have HB0 := Lib.hid hb0
    have HTT0 := Lib.hid hT0
    clear hwd0 hbp0 htt0 hw0 hb0 ht0 hT0
    go_wp2_with fail
    have hwd1 := HW0.out
    have hbp1 := HB0.out
    have htt1 := HTT0.out
    refine (num_ok HO.out (t := 2) (by omega) hk2 _ hwd1).mono ?_
    rintro e w1 ⟨rfl, hk⟩
    have hw1 := took_words hwd1 hk
    have ht1 := took_turns hk
    clear hk
    obtain ⟨V2, hV2⟩ : ∃ V, valN (ws.getD 2 []) = V := ⟨_, rfl⟩
    rw [hV2]
    have HV2 := Lib.hid hV2
    clear hV2
    have hb1 := hbp1.out ht1 hng
    have hT1 := htt1.trans (ht1.mono fun b _ hb => .inl hb)
    have HW1 := Lib.hid hw1
    have HB1 := Lib.hid hb1
    have HTT1 := Lib.hid hT1
    clear hwd1 hbp1 htt1 hw1 hb1 ht1 hT1
    go_wp2_with fail
    have hwd2 := HW1.out
    have hbp2 := HB1.out
    have htt2 := HTT1.out
    refine (num_ok HO.out (t := 3) (by omega) hk3 _ hwd2).mono ?_
    rintro e w2 ⟨rfl, hk⟩
    have hw2 := took_words hwd2 hk
    have ht2 := took_turns hk
    clear hk
    obtain ⟨V3, hV3⟩ : ∃ V, valN (ws.getD 3 []) = V := ⟨_, rfl⟩
    rw [hV3]
    have HV3 := Lib.hid hV3
    clear hV3
    have hb2 := hbp2.out ht2 hng
    have hT2 := htt2.trans (ht2.mono fun b _ hb => .inl hb)
    have HW2 := Lib.hid hw2
    have HB2 := Lib.hid hb2
    have HTT2 := Lib.hid hT2
    have x1 := hb2.cell 1
    have z1 := hb2.frozen 1
    have x2 := hb2.cell 2
    have z2 := hb2.frozen 2
    have x3 := hb2.cell 3
    have z3 := hb2.frozen 3
    unfold cellsP at x1 x2 x3
    simp at x1 x2 x3
    clear hwd2 hbp2 htt2 hw2 hb2 ht2 hT2
    go_wp2_with fail
    clear x1 z1 x2 z2 x3 z3
    have hwd3 := (Block.far (Block.far (Block.far HW2.out (p := ⟨gp, 1, none⟩) hne (.int .i64 V1)) (p := ⟨gp, 2, none⟩) hne (.int .i64 V2)) (p := ⟨gp, 3, none⟩) hne (.int .i64 V3))
    have hbp3 := (((HB2.out.set_ 1 (.int .i64 V1)).set_ 2 (.int .i64 V2)).set_ 3 (.int .i64 V3))
    have htt3 := (((HTT2.out.setCell (p := ⟨gp, 1, none⟩) (.inl (.inr rfl)) (.int .i64 V1)).setCell (p := ⟨gp, 2, none⟩) (.inl (.inr rfl)) (.int .i64 V2)).setCell (p := ⟨gp, 3, none⟩) (.inl (.inr rfl)) (.int .i64 V3))
    have G := num_no HO.out (t := 4) (by omega) hk4 _ hwd3
    unfold thrownF at G
    refine G.mono ?_
    rintro e w9 ⟨rfl, ht9⟩
    have HT9 := Lib.hid ht9
    have HTT := Lib.hid htt3
    clear ht9 G
    go_wp2_with fail
    exact ⟨rfl, WorldQ.no HF.out rfl (HTT.out.trans (HT9.out.mono fun b _ hb => .inl hb))⟩
  by_cases hk5 : okT ws 5
  case neg =>
    have HF := Lib.hid (world_no (ws := ws) (.inr (.inr (.inr (.inr (.inl hk5))))))
    go_enter Try.func34, Try.ntmps34
    go_wp2_with fail
    have hwd0 := HWD.out
    have hbp0 := HBP.out
    have htt0 := HT.out
    refine (num_ok HO.out (t := 1) (by omega) hk1 _ hwd0).mono ?_
    rintro e w0 ⟨rfl, hk⟩
    have hw0 := took_words hwd0 hk
    have ht0 := took_turns hk
    clear hk
    obtain ⟨V1, hV1⟩ : ∃ V, valN (ws.getD 1 []) = V := ⟨_, rfl⟩
    rw [hV1]
    have HV1 := Lib.hid hV1
    clear hV1
    have hb0 := hbp0.out ht0 hng
    have hT0 := htt0.trans (ht0.mono fun b _ hb => .inl hb)
    have HW0 := Lib.hid hw0
    have HB0 := Lib.hid hb0
    have HTT0 := Lib.hid hT0
    clear hwd0 hbp0 htt0 hw0 hb0 ht0 hT0
    go_wp2_with fail
    have hwd1 := HW0.out
    have hbp1 := HB0.out
    have htt1 := HTT0.out
    refine (num_ok HO.out (t := 2) (by omega) hk2 _ hwd1).mono ?_
    rintro e w1 ⟨rfl, hk⟩
    have hw1 := took_words hwd1 hk
    have ht1 := took_turns hk
    clear hk
    obtain ⟨V2, hV2⟩ : ∃ V, valN (ws.getD 2 []) = V := ⟨_, rfl⟩
    rw [hV2]
    have HV2 := Lib.hid hV2
    clear hV2
    have hb1 := hbp1.out ht1 hng
    have hT1 := htt1.trans (ht1.mono fun b _ hb => .inl hb)
    have HW1 := Lib.hid hw1
    have HB1 := Lib.hid hb1
    have HTT1 := Lib.hid hT1
    clear hwd1 hbp1 htt1 hw1 hb1 ht1 hT1
    go_wp2_with fail
    have hwd2 := HW1.out
    have hbp2 := HB1.out
    have htt2 := HTT1.out
    refine (num_ok HO.out (t := 3) (by omega) hk3 _ hwd2).mono ?_
    rintro e w2 ⟨rfl, hk⟩
    have hw2 := took_words hwd2 hk
    have ht2 := took_turns hk
    clear hk
    obtain ⟨V3, hV3⟩ : ∃ V, valN (ws.getD 3 []) = V := ⟨_, rfl⟩
    rw [hV3]
    have HV3 := Lib.hid hV3
    clear hV3
    have hb2 := hbp2.out ht2 hng
    have hT2 := htt2.trans (ht2.mono fun b _ hb => .inl hb)
    have HW2 := Lib.hid hw2
    have HB2 := Lib.hid hb2
    have HTT2 := Lib.hid hT2
    have x1 := hb2.cell 1
    have z1 := hb2.frozen 1
    have x2 := hb2.cell 2
    have z2 := hb2.frozen 2
    have x3 := hb2.cell 3
    have z3 := hb2.frozen 3
    unfold cellsP at x1 x2 x3
    simp at x1 x2 x3
    clear hwd2 hbp2 htt2 hw2 hb2 ht2 hT2
    go_wp2_with fail
    clear x1 z1 x2 z2 x3 z3
    have hwd3 := (Block.far (Block.far (Block.far HW2.out (p := ⟨gp, 1, none⟩) hne (.int .i64 V1)) (p := ⟨gp, 2, none⟩) hne (.int .i64 V2)) (p := ⟨gp, 3, none⟩) hne (.int .i64 V3))
    have hbp3 := (((HB2.out.set_ 1 (.int .i64 V1)).set_ 2 (.int .i64 V2)).set_ 3 (.int .i64 V3))
    have htt3 := (((HTT2.out.setCell (p := ⟨gp, 1, none⟩) (.inl (.inr rfl)) (.int .i64 V1)).setCell (p := ⟨gp, 2, none⟩) (.inl (.inr rfl)) (.int .i64 V2)).setCell (p := ⟨gp, 3, none⟩) (.inl (.inr rfl)) (.int .i64 V3))
    refine (num_ok HO.out (t := 4) (by omega) hk4 _ hwd3).mono ?_
    rintro e w3 ⟨rfl, hk⟩
    have hw3 := took_words hwd3 hk
    have ht3 := took_turns hk
    clear hk
    obtain ⟨V4, hV4⟩ : ∃ V, valN (ws.getD 4 []) = V := ⟨_, rfl⟩
    rw [hV4]
    have HV4 := Lib.hid hV4
    clear hV4
    have hvb := numB_le hk4.2
    rw [HV4.out] at hvb
    have hw8 : IntKind.u64.wrap V4 = V4 := by rw [IntKind.wrap_u64]; omega
    have hb3 := hbp3.out ht3 hng
    have hT3 := htt3.trans (ht3.mono fun b _ hb => .inl hb)
    have HW3 := Lib.hid hw3
    have HB3 := Lib.hid hb3
    have HTT3 := Lib.hid hT3
    have x6 := hb3.cell 6
    have z6 := hb3.frozen 6
    unfold cellsP at x6
    simp at x6
    clear hwd3 hbp3 htt3 hw3 hb3 ht3 hT3
    go_wp2_with fail
    clear x6 z6
    have hwd4 := (Block.far HW3.out (p := ⟨gp, 6, none⟩) hne (.int .u64 V4))
    have hbp4 := (HB3.out.set_ 6 (.int .u64 V4))
    have htt4 := (HTT3.out.setCell (p := ⟨gp, 6, none⟩) (.inl (.inr rfl)) (.int .u64 V4))
    have G := txt_no HO.out (t := 5) (by omega) hk5 _ hwd4
    unfold thrownF at G
    refine G.mono ?_
    rintro e w9 ⟨rfl, ht9⟩
    have HT9 := Lib.hid ht9
    have HTT := Lib.hid htt4
    clear ht9 G
    go_wp2_with fail
    exact ⟨rfl, WorldQ.no HF.out rfl (HTT.out.trans (HT9.out.mono fun b _ hb => .inl hb))⟩
  by_cases hk6 : okT ws 6
  case neg =>
    have HF := Lib.hid (world_no (ws := ws) (.inr (.inr (.inr (.inr (.inr (.inl hk6)))))))
    go_enter Try.func34, Try.ntmps34
    go_wp2_with fail
    have hwd0 := HWD.out
    have hbp0 := HBP.out
    have htt0 := HT.out
    refine (num_ok HO.out (t := 1) (by omega) hk1 _ hwd0).mono ?_
    rintro e w0 ⟨rfl, hk⟩
    have hw0 := took_words hwd0 hk
    have ht0 := took_turns hk
    clear hk
    obtain ⟨V1, hV1⟩ : ∃ V, valN (ws.getD 1 []) = V := ⟨_, rfl⟩
    rw [hV1]
    have HV1 := Lib.hid hV1
    clear hV1
    have hb0 := hbp0.out ht0 hng
    have hT0 := htt0.trans (ht0.mono fun b _ hb => .inl hb)
    have HW0 := Lib.hid hw0
    have HB0 := Lib.hid hb0
    have HTT0 := Lib.hid hT0
    clear hwd0 hbp0 htt0 hw0 hb0 ht0 hT0
    go_wp2_with fail
    have hwd1 := HW0.out
    have hbp1 := HB0.out
    have htt1 := HTT0.out
    refine (num_ok HO.out (t := 2) (by omega) hk2 _ hwd1).mono ?_
    rintro e w1 ⟨rfl, hk⟩
    have hw1 := took_words hwd1 hk
    have ht1 := took_turns hk
    clear hk
    obtain ⟨V2, hV2⟩ : ∃ V, valN (ws.getD 2 []) = V := ⟨_, rfl⟩
    rw [hV2]
    have HV2 := Lib.hid hV2
    clear hV2
    have hb1 := hbp1.out ht1 hng
    have hT1 := htt1.trans (ht1.mono fun b _ hb => .inl hb)
    have HW1 := Lib.hid hw1
    have HB1 := Lib.hid hb1
    have HTT1 := Lib.hid hT1
    clear hwd1 hbp1 htt1 hw1 hb1 ht1 hT1
    go_wp2_with fail
    have hwd2 := HW1.out
    have hbp2 := HB1.out
    have htt2 := HTT1.out
    refine (num_ok HO.out (t := 3) (by omega) hk3 _ hwd2).mono ?_
    rintro e w2 ⟨rfl, hk⟩
    have hw2 := took_words hwd2 hk
    have ht2 := took_turns hk
    clear hk
    obtain ⟨V3, hV3⟩ : ∃ V, valN (ws.getD 3 []) = V := ⟨_, rfl⟩
    rw [hV3]
    have HV3 := Lib.hid hV3
    clear hV3
    have hb2 := hbp2.out ht2 hng
    have hT2 := htt2.trans (ht2.mono fun b _ hb => .inl hb)
    have HW2 := Lib.hid hw2
    have HB2 := Lib.hid hb2
    have HTT2 := Lib.hid hT2
    have x1 := hb2.cell 1
    have z1 := hb2.frozen 1
    have x2 := hb2.cell 2
    have z2 := hb2.frozen 2
    have x3 := hb2.cell 3
    have z3 := hb2.frozen 3
    unfold cellsP at x1 x2 x3
    simp at x1 x2 x3
    clear hwd2 hbp2 htt2 hw2 hb2 ht2 hT2
    go_wp2_with fail
    clear x1 z1 x2 z2 x3 z3
    have hwd3 := (Block.far (Block.far (Block.far HW2.out (p := ⟨gp, 1, none⟩) hne (.int .i64 V1)) (p := ⟨gp, 2, none⟩) hne (.int .i64 V2)) (p := ⟨gp, 3, none⟩) hne (.int .i64 V3))
    have hbp3 := (((HB2.out.set_ 1 (.int .i64 V1)).set_ 2 (.int .i64 V2)).set_ 3 (.int .i64 V3))
    have htt3 := (((HTT2.out.setCell (p := ⟨gp, 1, none⟩) (.inl (.inr rfl)) (.int .i64 V1)).setCell (p := ⟨gp, 2, none⟩) (.inl (.inr rfl)) (.int .i64 V2)).setCell (p := ⟨gp, 3, none⟩) (.inl (.inr rfl)) (.int .i64 V3))
    refine (num_ok HO.out (t := 4) (by omega) hk4 _ hwd3).mono ?_
    rintro e w3 ⟨rfl, hk⟩
    have hw3 := took_words hwd3 hk
    have ht3 := took_turns hk
    clear hk
    obtain ⟨V4, hV4⟩ : ∃ V, valN (ws.getD 4 []) = V := ⟨_, rfl⟩
    rw [hV4]
    have HV4 := Lib.hid hV4
    clear hV4
    have hvb := numB_le hk4.2
    rw [HV4.out] at hvb
    have hw8 : IntKind.u64.wrap V4 = V4 := by rw [IntKind.wrap_u64]; omega
    have hb3 := hbp3.out ht3 hng
    have hT3 := htt3.trans (ht3.mono fun b _ hb => .inl hb)
    have HW3 := Lib.hid hw3
    have HB3 := Lib.hid hb3
    have HTT3 := Lib.hid hT3
    have x6 := hb3.cell 6
    have z6 := hb3.frozen 6
    unfold cellsP at x6
    simp at x6
    clear hwd3 hbp3 htt3 hw3 hb3 ht3 hT3
    go_wp2_with fail
    clear x6 z6
    have hwd4 := (Block.far HW3.out (p := ⟨gp, 6, none⟩) hne (.int .u64 V4))
    have hbp4 := (HB3.out.set_ 6 (.int .u64 V4))
    have htt4 := (HTT3.out.setCell (p := ⟨gp, 6, none⟩) (.inl (.inr rfl)) (.int .u64 V4))
    refine (txt_ok HO.out (t := 5) (by omega) hk5 _ hwd4).mono ?_
    rintro e w4 ⟨A5, a5, rfl, hw4, ht4, ho5⟩
    obtain ⟨n5, hn5⟩ : ∃ n, (unL (ws.getD 5 [])).length = n := ⟨_, rfl⟩
    rw [hn5] at ho5 ⊢
    have HN5 := Lib.hid hn5
    clear hn5
    have HO5 := Lib.hid (ho5.mono htt4.size)
    have HTa5 := Lib.hid ht4
    clear ho5
    have hb4 := hbp4.out ht4 hng
    have hT4 := htt4.trans (ht4.mono fun b _ hb => .inl hb)
    have HW4 := Lib.hid hw4
    have HB4 := Lib.hid hb4
    have HTT4 := Lib.hid hT4
    have x4 := hb4.cell 4
    have z4 := hb4.frozen 4
    unfold cellsP at x4
    simp at x4
    clear hwd4 hbp4 htt4 hw4 hb4 ht4 hT4
    go_wp2_with fail
    clear x4 z4
    have hwd5 := (Block.far HW4.out (p := ⟨gp, 4, none⟩) hne (.slice A5 n5 a5))
    have hbp5 := (HB4.out.set_ 4 (.slice A5 n5 a5))
    have htt5 := (HTT4.out.setCell (p := ⟨gp, 4, none⟩) (.inl (.inr rfl)) (.slice A5 n5 a5))
    have G := txt_no HO.out (t := 6) (by omega) hk6 _ hwd5
    unfold thrownF at G
    refine G.mono ?_
    rintro e w9 ⟨rfl, ht9⟩
    have HT9 := Lib.hid ht9
    have HTT := Lib.hid htt5
    clear ht9 G
    go_wp2_with fail
    exact ⟨rfl, WorldQ.no HF.out rfl (HTT.out.trans (HT9.out.mono fun b _ hb => .inl hb))⟩
  by_cases hk7 : ws.length ≤ 7
  case neg =>
    have HF := Lib.hid (world_no (ws := ws) (.inr (.inr (.inr (.inr (.inr (.inr (by omega))))))))
    have hk7 : 7 < ws.length := by omega
    go_enter Try.func34, Try.ntmps34
    go_wp2_with fail
    have hwd0 := HWD.out
    have hbp0 := HBP.out
    have htt0 := HT.out
    refine (num_ok HO.out (t := 1) (by omega) hk1 _ hwd0).mono ?_
    rintro e w0 ⟨rfl, hk⟩
    have hw0 := took_words hwd0 hk
    have ht0 := took_turns hk
    clear hk
    obtain ⟨V1, hV1⟩ : ∃ V, valN (ws.getD 1 []) = V := ⟨_, rfl⟩
    rw [hV1]
    have HV1 := Lib.hid hV1
    clear hV1
    have hb0 := hbp0.out ht0 hng
    have hT0 := htt0.trans (ht0.mono fun b _ hb => .inl hb)
    have HW0 := Lib.hid hw0
    have HB0 := Lib.hid hb0
    have HTT0 := Lib.hid hT0
    clear hwd0 hbp0 htt0 hw0 hb0 ht0 hT0
    go_wp2_with fail
    have hwd1 := HW0.out
    have hbp1 := HB0.out
    have htt1 := HTT0.out
    refine (num_ok HO.out (t := 2) (by omega) hk2 _ hwd1).mono ?_
    rintro e w1 ⟨rfl, hk⟩
    have hw1 := took_words hwd1 hk
    have ht1 := took_turns hk
    clear hk
    obtain ⟨V2, hV2⟩ : ∃ V, valN (ws.getD 2 []) = V := ⟨_, rfl⟩
    rw [hV2]
    have HV2 := Lib.hid hV2
    clear hV2
    have hb1 := hbp1.out ht1 hng
    have hT1 := htt1.trans (ht1.mono fun b _ hb => .inl hb)
    have HW1 := Lib.hid hw1
    have HB1 := Lib.hid hb1
    have HTT1 := Lib.hid hT1
    clear hwd1 hbp1 htt1 hw1 hb1 ht1 hT1
    go_wp2_with fail
    have hwd2 := HW1.out
    have hbp2 := HB1.out
    have htt2 := HTT1.out
    refine (num_ok HO.out (t := 3) (by omega) hk3 _ hwd2).mono ?_
    rintro e w2 ⟨rfl, hk⟩
    have hw2 := took_words hwd2 hk
    have ht2 := took_turns hk
    clear hk
    obtain ⟨V3, hV3⟩ : ∃ V, valN (ws.getD 3 []) = V := ⟨_, rfl⟩
    rw [hV3]
    have HV3 := Lib.hid hV3
    clear hV3
    have hb2 := hbp2.out ht2 hng
    have hT2 := htt2.trans (ht2.mono fun b _ hb => .inl hb)
    have HW2 := Lib.hid hw2
    have HB2 := Lib.hid hb2
    have HTT2 := Lib.hid hT2
    have x1 := hb2.cell 1
    have z1 := hb2.frozen 1
    have x2 := hb2.cell 2
    have z2 := hb2.frozen 2
    have x3 := hb2.cell 3
    have z3 := hb2.frozen 3
    unfold cellsP at x1 x2 x3
    simp at x1 x2 x3
    clear hwd2 hbp2 htt2 hw2 hb2 ht2 hT2
    go_wp2_with fail
    clear x1 z1 x2 z2 x3 z3
    have hwd3 := (Block.far (Block.far (Block.far HW2.out (p := ⟨gp, 1, none⟩) hne (.int .i64 V1)) (p := ⟨gp, 2, none⟩) hne (.int .i64 V2)) (p := ⟨gp, 3, none⟩) hne (.int .i64 V3))
    have hbp3 := (((HB2.out.set_ 1 (.int .i64 V1)).set_ 2 (.int .i64 V2)).set_ 3 (.int .i64 V3))
    have htt3 := (((HTT2.out.setCell (p := ⟨gp, 1, none⟩) (.inl (.inr rfl)) (.int .i64 V1)).setCell (p := ⟨gp, 2, none⟩) (.inl (.inr rfl)) (.int .i64 V2)).setCell (p := ⟨gp, 3, none⟩) (.inl (.inr rfl)) (.int .i64 V3))
    refine (num_ok HO.out (t := 4) (by omega) hk4 _ hwd3).mono ?_
    rintro e w3 ⟨rfl, hk⟩
    have hw3 := took_words hwd3 hk
    have ht3 := took_turns hk
    clear hk
    obtain ⟨V4, hV4⟩ : ∃ V, valN (ws.getD 4 []) = V := ⟨_, rfl⟩
    rw [hV4]
    have HV4 := Lib.hid hV4
    clear hV4
    have hvb := numB_le hk4.2
    rw [HV4.out] at hvb
    have hw8 : IntKind.u64.wrap V4 = V4 := by rw [IntKind.wrap_u64]; omega
    have hb3 := hbp3.out ht3 hng
    have hT3 := htt3.trans (ht3.mono fun b _ hb => .inl hb)
    have HW3 := Lib.hid hw3
    have HB3 := Lib.hid hb3
    have HTT3 := Lib.hid hT3
    have x6 := hb3.cell 6
    have z6 := hb3.frozen 6
    unfold cellsP at x6
    simp at x6
    clear hwd3 hbp3 htt3 hw3 hb3 ht3 hT3
    go_wp2_with fail
    clear x6 z6
    have hwd4 := (Block.far HW3.out (p := ⟨gp, 6, none⟩) hne (.int .u64 V4))
    have hbp4 := (HB3.out.set_ 6 (.int .u64 V4))
    have htt4 := (HTT3.out.setCell (p := ⟨gp, 6, none⟩) (.inl (.inr rfl)) (.int .u64 V4))
    refine (txt_ok HO.out (t := 5) (by omega) hk5 _ hwd4).mono ?_
    rintro e w4 ⟨A5, a5, rfl, hw4, ht4, ho5⟩
    obtain ⟨n5, hn5⟩ : ∃ n, (unL (ws.getD 5 [])).length = n := ⟨_, rfl⟩
    rw [hn5] at ho5 ⊢
    have HN5 := Lib.hid hn5
    clear hn5
    have HO5 := Lib.hid (ho5.mono htt4.size)
    have HTa5 := Lib.hid ht4
    clear ho5
    have hb4 := hbp4.out ht4 hng
    have hT4 := htt4.trans (ht4.mono fun b _ hb => .inl hb)
    have HW4 := Lib.hid hw4
    have HB4 := Lib.hid hb4
    have HTT4 := Lib.hid hT4
    have x4 := hb4.cell 4
    have z4 := hb4.frozen 4
    unfold cellsP at x4
    simp at x4
    clear hwd4 hbp4 htt4 hw4 hb4 ht4 hT4
    go_wp2_with fail
    clear x4 z4
    have hwd5 := (Block.far HW4.out (p := ⟨gp, 4, none⟩) hne (.slice A5 n5 a5))
    have hbp5 := (HB4.out.set_ 4 (.slice A5 n5 a5))
    have htt5 := (HTT4.out.setCell (p := ⟨gp, 4, none⟩) (.inl (.inr rfl)) (.slice A5 n5 a5))
    refine (txt_ok HO.out (t := 6) (by omega) hk6 _ hwd5).mono ?_
    rintro e w5 ⟨A6, a6, rfl, hw5, ht5, ho6⟩
    obtain ⟨n6, hn6⟩ : ∃ n, (unL (ws.getD 6 [])).length = n := ⟨_, rfl⟩
    rw [hn6] at ho6 ⊢
    have HN6 := Lib.hid hn6
    clear hn6
    have HO6 := Lib.hid (ho6.mono htt5.size)
    have HTa6 := Lib.hid ht5
    clear ho6
    have hb5 := hbp5.out ht5 hng
    have hT5 := htt5.trans (ht5.mono fun b _ hb => .inl hb)
    have HW5 := Lib.hid hw5
    have HB5 := Lib.hid hb5
    have HTT5 := Lib.hid hT5
    have x5 := hb5.cell 5
    have z5 := hb5.frozen 5
    unfold cellsP at x5
    simp at x5
    clear hwd5 hbp5 htt5 hw5 hb5 ht5 hT5
    go_wp2_with fail
    clear x5 z5
    have hwd6 := (Block.far HW5.out (p := ⟨gp, 5, none⟩) hne (.slice A6 n6 a6))
    have hbp6 := (HB5.out.set_ 5 (.slice A6 n6 a6))
    have htt6 := (HTT5.out.setCell (p := ⟨gp, 5, none⟩) (.inl (.inr rfl)) (.slice A6 n6 a6))
    refine (end_no g 7 ws _ hwd6 hk7).mono ?_
    rintro e w9 ⟨rfl, n9, rfl⟩
    go_wp2_with fail
    exact ⟨rfl, WorldQ.no HF.out rfl (htt6.drewN _)⟩
  have HF := Lib.hid (world_yes hk1 hk2 hk3 hk4 hk5 hk6 hk7)
  go_enter Try.func34, Try.ntmps34
  go_wp2_with fail
  have hwd0 := HWD.out
  have hbp0 := HBP.out
  have htt0 := HT.out
  refine (num_ok HO.out (t := 1) (by omega) hk1 _ hwd0).mono ?_
  rintro e w0 ⟨rfl, hk⟩
  have hw0 := took_words hwd0 hk
  have ht0 := took_turns hk
  clear hk
  obtain ⟨V1, hV1⟩ : ∃ V, valN (ws.getD 1 []) = V := ⟨_, rfl⟩
  rw [hV1]
  have HV1 := Lib.hid hV1
  clear hV1
  have hb0 := hbp0.out ht0 hng
  have hT0 := htt0.trans (ht0.mono fun b _ hb => .inl hb)
  have HW0 := Lib.hid hw0
  have HB0 := Lib.hid hb0
  have HTT0 := Lib.hid hT0
  clear hwd0 hbp0 htt0 hw0 hb0 ht0 hT0
  go_wp2_with fail
  have hwd1 := HW0.out
  have hbp1 := HB0.out
  have htt1 := HTT0.out
  refine (num_ok HO.out (t := 2) (by omega) hk2 _ hwd1).mono ?_
  rintro e w1 ⟨rfl, hk⟩
  have hw1 := took_words hwd1 hk
  have ht1 := took_turns hk
  clear hk
  obtain ⟨V2, hV2⟩ : ∃ V, valN (ws.getD 2 []) = V := ⟨_, rfl⟩
  rw [hV2]
  have HV2 := Lib.hid hV2
  clear hV2
  have hb1 := hbp1.out ht1 hng
  have hT1 := htt1.trans (ht1.mono fun b _ hb => .inl hb)
  have HW1 := Lib.hid hw1
  have HB1 := Lib.hid hb1
  have HTT1 := Lib.hid hT1
  clear hwd1 hbp1 htt1 hw1 hb1 ht1 hT1
  go_wp2_with fail
  have hwd2 := HW1.out
  have hbp2 := HB1.out
  have htt2 := HTT1.out
  refine (num_ok HO.out (t := 3) (by omega) hk3 _ hwd2).mono ?_
  rintro e w2 ⟨rfl, hk⟩
  have hw2 := took_words hwd2 hk
  have ht2 := took_turns hk
  clear hk
  obtain ⟨V3, hV3⟩ : ∃ V, valN (ws.getD 3 []) = V := ⟨_, rfl⟩
  rw [hV3]
  have HV3 := Lib.hid hV3
  clear hV3
  have hb2 := hbp2.out ht2 hng
  have hT2 := htt2.trans (ht2.mono fun b _ hb => .inl hb)
  have HW2 := Lib.hid hw2
  have HB2 := Lib.hid hb2
  have HTT2 := Lib.hid hT2
  have x1 := hb2.cell 1
  have z1 := hb2.frozen 1
  have x2 := hb2.cell 2
  have z2 := hb2.frozen 2
  have x3 := hb2.cell 3
  have z3 := hb2.frozen 3
  unfold cellsP at x1 x2 x3
  simp at x1 x2 x3
  clear hwd2 hbp2 htt2 hw2 hb2 ht2 hT2
  go_wp2_with fail
  clear x1 z1 x2 z2 x3 z3
  have hwd3 := (Block.far (Block.far (Block.far HW2.out (p := ⟨gp, 1, none⟩) hne (.int .i64 V1)) (p := ⟨gp, 2, none⟩) hne (.int .i64 V2)) (p := ⟨gp, 3, none⟩) hne (.int .i64 V3))
  have hbp3 := (((HB2.out.set_ 1 (.int .i64 V1)).set_ 2 (.int .i64 V2)).set_ 3 (.int .i64 V3))
  have htt3 := (((HTT2.out.setCell (p := ⟨gp, 1, none⟩) (.inl (.inr rfl)) (.int .i64 V1)).setCell (p := ⟨gp, 2, none⟩) (.inl (.inr rfl)) (.int .i64 V2)).setCell (p := ⟨gp, 3, none⟩) (.inl (.inr rfl)) (.int .i64 V3))
  refine (num_ok HO.out (t := 4) (by omega) hk4 _ hwd3).mono ?_
  rintro e w3 ⟨rfl, hk⟩
  have hw3 := took_words hwd3 hk
  have ht3 := took_turns hk
  clear hk
  obtain ⟨V4, hV4⟩ : ∃ V, valN (ws.getD 4 []) = V := ⟨_, rfl⟩
  rw [hV4]
  have HV4 := Lib.hid hV4
  clear hV4
  have hvb := numB_le hk4.2
  rw [HV4.out] at hvb
  have hw8 : IntKind.u64.wrap V4 = V4 := by rw [IntKind.wrap_u64]; omega
  have hb3 := hbp3.out ht3 hng
  have hT3 := htt3.trans (ht3.mono fun b _ hb => .inl hb)
  have HW3 := Lib.hid hw3
  have HB3 := Lib.hid hb3
  have HTT3 := Lib.hid hT3
  have x6 := hb3.cell 6
  have z6 := hb3.frozen 6
  unfold cellsP at x6
  simp at x6
  clear hwd3 hbp3 htt3 hw3 hb3 ht3 hT3
  go_wp2_with fail
  clear x6 z6
  have hwd4 := (Block.far HW3.out (p := ⟨gp, 6, none⟩) hne (.int .u64 V4))
  have hbp4 := (HB3.out.set_ 6 (.int .u64 V4))
  have htt4 := (HTT3.out.setCell (p := ⟨gp, 6, none⟩) (.inl (.inr rfl)) (.int .u64 V4))
  refine (txt_ok HO.out (t := 5) (by omega) hk5 _ hwd4).mono ?_
  rintro e w4 ⟨A5, a5, rfl, hw4, ht4, ho5⟩
  obtain ⟨n5, hn5⟩ : ∃ n, (unL (ws.getD 5 [])).length = n := ⟨_, rfl⟩
  rw [hn5] at ho5 ⊢
  have HN5 := Lib.hid hn5
  clear hn5
  have HO5 := Lib.hid (ho5.mono htt4.size)
  have HTa5 := Lib.hid ht4
  clear ho5
  have hb4 := hbp4.out ht4 hng
  have hT4 := htt4.trans (ht4.mono fun b _ hb => .inl hb)
  have HW4 := Lib.hid hw4
  have HB4 := Lib.hid hb4
  have HTT4 := Lib.hid hT4
  have x4 := hb4.cell 4
  have z4 := hb4.frozen 4
  unfold cellsP at x4
  simp at x4
  clear hwd4 hbp4 htt4 hw4 hb4 ht4 hT4
  go_wp2_with fail
  clear x4 z4
  have hwd5 := (Block.far HW4.out (p := ⟨gp, 4, none⟩) hne (.slice A5 n5 a5))
  have hbp5 := (HB4.out.set_ 4 (.slice A5 n5 a5))
  have htt5 := (HTT4.out.setCell (p := ⟨gp, 4, none⟩) (.inl (.inr rfl)) (.slice A5 n5 a5))
  refine (txt_ok HO.out (t := 6) (by omega) hk6 _ hwd5).mono ?_
  rintro e w5 ⟨A6, a6, rfl, hw5, ht5, ho6⟩
  obtain ⟨n6, hn6⟩ : ∃ n, (unL (ws.getD 6 [])).length = n := ⟨_, rfl⟩
  rw [hn6] at ho6 ⊢
  have HN6 := Lib.hid hn6
  clear hn6
  have HO6 := Lib.hid (ho6.mono htt5.size)
  have HTa6 := Lib.hid ht5
  clear ho6
  have hb5 := hbp5.out ht5 hng
  have hT5 := htt5.trans (ht5.mono fun b _ hb => .inl hb)
  have HW5 := Lib.hid hw5
  have HB5 := Lib.hid hb5
  have HTT5 := Lib.hid hT5
  have x5 := hb5.cell 5
  have z5 := hb5.frozen 5
  unfold cellsP at x5
  simp at x5
  clear hwd5 hbp5 htt5 hw5 hb5 ht5 hT5
  go_wp2_with fail
  clear x5 z5
  have hwd6 := (Block.far HW5.out (p := ⟨gp, 5, none⟩) hne (.slice A6 n6 a6))
  have hbp6 := (HB5.out.set_ 5 (.slice A6 n6 a6))
  have htt6 := (HTT5.out.setCell (p := ⟨gp, 5, none⟩) (.inl (.inr rfl)) (.slice A6 n6 a6))
  refine (end_ok g 7 ws _ hwd6 hk7).mono ?_
  rintro e w6 ⟨rfl, m9, rfl⟩
  have x0 := (hbp6.drewN m9).cell 0
  have z0 := (hbp6.drewN m9).frozen 0
  unfold cellsP at x0
  simp at x0
  go_wp2_with fail
  go_end0
  unfold WorldQ
  rw [HF.out]
  have ho5 := HO5.out
  have ho6 := HO6.out
  refine ⟨(htt6.drewN _).setCell (p := ⟨gp, 0, none⟩) (.inl (.inr rfl)) _, rfl, .slice A5 n5 a5, .slice A6 n6 a6, ?_, ?_, ?_⟩
  · have h9 := (hbp6.drewN m9).set_ 0 (.bool true)
    simp only [List.getD_cons_zero, List.getD_cons_succ, HV1.out, HV2.out, HV3.out, HV4.out]
    exact h9
  · refine Own.out (xs := unL (ws.getD 5 [])) ?_ ((((((TurnsIn.refl (fun b => b = g ∨ b = gp) w4).setCell (p := ⟨gp, 4, none⟩) (.inl (.inr rfl)) (.slice A5 n5 a5)).trans (HTa6.out.mono fun b _ hb => .inl hb)).setCell (p := ⟨gp, 5, none⟩) (.inl (.inr rfl)) (.slice A6 n6 a6)).drewN m9).setCell (p := ⟨gp, 0, none⟩) (.inl (.inr rfl)) (.bool true)) ?_
    · exact ho5
    · rintro x hx (rfl | rfl)
      · exact ho5.ne_block HW4.out (by decide) hx
      · exact ho5.ne_block HB4.out (by decide) hx
  · refine Own.out (xs := unL (ws.getD 6 [])) ?_ ((((TurnsIn.refl (fun b => b = g ∨ b = gp) w5).setCell (p := ⟨gp, 5, none⟩) (.inl (.inr rfl)) (.slice A6 n6 a6)).drewN m9).setCell (p := ⟨gp, 0, none⟩) (.inl (.inr rfl)) (.bool true)) ?_
    · exact ho6
    · rintro x hx (rfl | rfl)
      · exact ho6.ne_block HW5.out (by decide) hx
      · exact ho6.ne_block HB5.out (by decide) hx
end Go.Proofs.Ytngeemfcmoahoaa.Tv

namespace Go.Proofs.Ytngeemfcmoahoaa.Tv
open Go.ChangeShapes Go.WideShapes Go.ChangeAt Go.RowKit Go.Proofs.Ytngeemfcmoahoaa.Kit Go.Proofs.Ytngeemfcmoahoaa.Tx Go.Proofs.Ytngeemfcmoahoaa.Ty Go.Proofs.Ytngeemfcmoahoaa.Tz

def cellsE (x : ActV × Value) : List Value := [.int .u8 x.1.k, .int .u8 x.1.m, .int .i64 x.1.p, .int .i64 x.1.n, .int .u64 x.1.v, x.2]
/-- v is a row of acts of the call's own. -/
def OwnE (w : World) (B : Nat) (v : Value) (es : List (ActV × Value)) : Prop := w.ownsRow B 40 6 v es.length (es.flatMap cellsE)
theorem flatE_get : ∀ (es : List (ActV × Value)) (i j : Nat) (x : ActV × Value) (u : Value), es[i]? = some x → (cellsE x)[j]? = some u → (es.flatMap cellsE)[i * 6 + j]? = some u
  | [], i, j, s, u, h, _ => by simp at h
  | a :: ss, 0, j, s, u, h, hu => by
    simp at h
    subst h
    have hj : j < (cellsE a).length := (List.getElem?_eq_some_iff.1 hu).1
    rw [List.flatMap_cons, Nat.zero_mul, Nat.zero_add, List.getElem?_append_left hj]
    exact hu
  | a :: ss, i + 1, j, s, u, h, hu => by
    have ih := flatE_get ss i j s u (by simpa using h) hu
    rw [List.flatMap_cons, List.getElem?_append_right (by simp [cellsE]; omega)]
    have e : (i + 1) * 6 + j - (cellsE a).length = i * 6 + j := by simp [cellsE]; omega
    rw [e]
    exact ih
section
variable {w w' : World} {B : Nat} {v : Value} {es : List (ActV × Value)}
theorem OwnE.nil (w : World) (B : Nat) : OwnE w B (.slice none 0 0) [] := World.ownsRow_nil w B _ 6
theorem OwnE.lt (h : OwnE w B v es) : ∀ g, v.ownBlock = some g → B ≤ g ∧ g < w.heap.size := World.ownsRow.lt h
theorem OwnE.alloc (h : OwnE w B v es) (o : Obj) : OwnE (w.alloc o) B v es := World.ownsRow.alloc h o
theorem OwnE.opened (h : OwnE w B v es) : ∃ (A : Option Addr) (cap : Nat), v = .slice A es.length cap ∧ es.length ≤ cap ∧ cap ≤ maxLen := by
  rcases h.2 with ⟨rfl, h0⟩ | ⟨g, cap, cur, rfl, hb, hg2, hnc, hcm, hcs, htake⟩
  · exact ⟨none, 0, by rw [h0], by omega, Nat.zero_le _⟩
  · exact ⟨_, cap, rfl, hnc, hcm⟩
theorem OwnE.cellAt (h : OwnE w B v es) {i : Nat} (hi : i < es.length) : ∃ g, v = .slice (some ⟨g, 0, none⟩) es.length (match v with | .slice _ _ c => c | _ => 0) ∧ g < w.heap.size ∧ ∀ j u, (cellsE es[i])[j]? = some u → w.cell? ⟨g, i * 6 + j, none⟩ = some u := by
  rcases h.2 with ⟨rfl, h0⟩ | ⟨g, cap, cur, rfl, hb, hg2, hnc, hcm, hcs, htake⟩
  · omega
  · refine ⟨g, rfl, (Array.getElem?_eq_some_iff.1 hg2).1, fun j u hu => ?_⟩
    have := World.ownsRow.cells h (g := g) rfl (i * 6 + j) u (flatE_get es i j _ u (List.getElem?_eq_getElem hi) hu)
    rw [add_plain] at this
    rw [Nat.zero_add] at this
    exact this
theorem OwnE.out {S : Nat → Prop} (h : OwnE w B v es) (ho : TurnsIn S w w') (hv : ∀ g, v.ownBlock = some g → ¬ S g) : OwnE w' B v es := by
  rcases h.2 with ⟨rfl, h0⟩ | ⟨g, cap, cur, rfl, hbg, hg, hnc, hcm, hcs, htake⟩
  · exact ⟨h.1, .inl ⟨rfl, h0⟩⟩
  · exact ⟨h.1, .inr ⟨g, cap, cur, rfl, hbg, (ho.block g (Array.getElem?_eq_some_iff.1 hg).1 (hv g rfl)).trans hg, hnc, hcm, hcs, htake⟩⟩
theorem OwnE.block (h : OwnE w B v es) {g : Nat} (hv : v.ownBlock = some g) : ∃ cs, Block w g 40 cs := by
  rcases h.2 with ⟨rfl, _⟩ | ⟨g', cap, cur, rfl, _, hh, _⟩
  · simp [Value.ownBlock] at hv
  · obtain rfl : g' = g := by simpa [Value.ownBlock] using hv
    exact ⟨cur, hh⟩
theorem OwnE.ne_block {g : Nat} {t : TypeId} {cs : Array Value} (h : OwnE w B v es) (hg : Block w g t cs) (hne : 40 ≠ t) : v.ownBlock ≠ some g := by
  intro he
  obtain ⟨cs', hb⟩ := h.block he
  exact hne (block_type hb hg)
theorem elemE : Try.prog.underlying 31 = some (.slice 40) ∧ (Try.prog.info? 40).map (fun i => (i.zero, i.size, i.bytes)) = some (some (.agg #[.int .u8 0, .int .u8 0, .int .i64 0, .int .i64 0, .int .u64 0, .slice none 0 0]), 6, 56) := by
  constructor <;> kernel_rfl
theorem run_append_act (h : OwnE w B v es) (q : ActV) (A : Option Addr) (n m c : Nat) (hsz : es.length ≤ 1000000) (hbase : B ≤ w.heap.size) (ty : TypeId) :
    ∃ A' c' w', (Builtin.append_ #[31, 31] ty #[v, .slice (some ⟨w.heap.size, 0, none⟩) 1 c]).run Try.prog (w.alloc (.cells (cellsE (q, .slice A n m)).toArray 40)) = .ok (.slice A' (es.length + 1) c') w' ∧
      OwnE w' B (.slice A' (es.length + 1) c') (es ++ [(q, .slice A n m)]) ∧ TurnsIn (fun b => v.ownBlock = some b) w w' ∧ Newer w v (.slice A' (es.length + 1) c') := by
  obtain ⟨ht, hinfo⟩ := elemE
  obtain ⟨i, hi, hz, hs, hby⟩ := info_parts hinfo
  have hnew := Block.new w 40 (cellsE (q, .slice A n m)).toArray
  obtain ⟨g, cap, w', hrun, h2, h3, h4, h5⟩ := run_append_lies (P := Try.prog) (w.alloc (.cells (cellsE (q, .slice A n m)).toArray 40)) 31 ty B 40 i _ 6 56 ht hi hz hs hby rfl (by omega) v es.length (es.flatMap cellsE) (h.alloc _)
    ⟨w.heap.size, 0, none⟩ 1 c (cellsE (q, .slice A n m)) (by simp [cellsE]) (by
      intro j u hu
      exact World.news_of_block hnew j u (by simpa using hu)) (by
      intro u hu
      simp [cellsE] at hu
      rcases hu with rfl | rfl | rfl | rfl | rfl | rfl <;> rfl) (by omega) (by unfold maxLen; omega) (by omega) (by simp; omega) _ rfl
  refine ⟨some ⟨g, 0, none⟩, cap, w', hrun, ?_, ((TurnsIn.refl _ w).alloc _).trans (.ofGrown h3 fun b hb => hb), ?_⟩
  · unfold OwnE
    rw [List.length_append, List.flatMap_append]
    simpa using h2
  · rcases h4 with h4 | h4
    · exact .inl h4.symm
    · refine .inr fun x hx => ?_
      obtain rfl : g = x := by simpa [Value.ownBlock] using hx
      rw [h4]
      simp
end
/-- What the lines told by now, in memory. -/
structure PAt (w : World) (B g : Nat) (p : PS) (vs vi va : Value) (es : List (ActV × Value)) : Prop where
  blk : Block w g 56 (cellsP p.b p.c0 p.c1 p.c2 vs vi p.v va)
  os : Own w B 5 .u8 vs p.sd
  oi : Own w B 5 .u8 vi p.im
  oa : OwnE w B va es
  al : es.map Prod.fst = p.al
  ds : ∀ x ∈ es, Own w B 5 .u8 x.2 x.1.d
theorem PAt.out {S : Nat → Prop} {w w' : World} {B g : Nat} {p : PS} {vs vi va : Value} {es : List (ActV × Value)} (h : PAt w B g p vs vi va es) (t : TurnsIn S w w') (hg : ¬ S g) (ha : ∀ x, va.ownBlock = some x → ¬ S x) (hu : ∀ x cs, Block w x 5 cs → ¬ S x) : PAt w' B g p vs vi va es :=
  ⟨h.blk.out t hg, h.os.out t (fun x hx hs => by obtain ⟨cs, hc⟩ := own_block h.os hx; exact hu x cs hc hs), h.oi.out t (fun x hx hs => by obtain ⟨cs, hc⟩ := own_block h.oi hx; exact hu x cs hc hs), h.oa.out t ha, h.al, fun x hx => (h.ds x hx).out t (fun y hy hs => by obtain ⟨cs, hc⟩ := own_block (h.ds x hx) hy; exact hu y cs hc hs)⟩

set_option maxHeartbeats 6400000 in
/-- Nothing was thrown: nothing is done. -/
theorem catchL_idle (q : Addr) (w : World) :
    CallsD Try.prog 29 #[.pointer (some q)] .returning w fun e u' w' => e = .returned (.tuple #[]) ∧ u' = .returning ∧ w' = w := by
  refine callsD_of_wpS Try.func29 rfl fun c₀ cs hu => ?_
  apply wpS_seq
  apply wpS_region
  simp [wpOpsS, go_sem, recoverD, hu, Try.ntmps29, Exit.thenS]
  refine wpS_of_wp ?_
  go_wp2
  cases c₀
  simp_all [bodyPostS, results, Try.results29]
def CaughtL (qb : Nat) (why : Int) (u : FrameMode) (w : World) (e : Ending) (u' : FrameMode) (w' : World) : Prop :=
  e = .returned (.tuple #[]) ∧ u' = u ∧ Block w' qb 32 #[.int .i64 why] ∧ TurnsIn (fun b => b = qb) w w'

set_option maxHeartbeats 6400000 in
theorem catchL_noEnd (qb : Nat) (e0 : Value) (older : List PanicEntry) (w : World) (hq : Block w qb 32 #[e0]) :
    CallsD Try.prog 29 #[.pointer (some ⟨qb, 0, none⟩)] (.panicking ({ v := .iface 70 (.agg #[]), recovered := false } :: older)) w
      (CaughtL qb 22 (.panicking ({ v := .iface 70 (.agg #[]), recovered := true } :: older)) w) := by
  refine callsD_of_wpS Try.func29 rfl fun c₀ cs hu => ?_
  apply wpS_seq
  apply wpS_region
  simp [wpOpsS, go_sem, recoverD, hu, Try.ntmps29, Exit.thenS]
  refine wpS_of_wp ?_
  rw [show (#[Value.pointer (some ⟨qb, 0, none⟩)] ++ (Array.replicate 17 undef).setIfInBounds 5 (Value.iface 70 (Value.agg #[])) : Array Value) = #[Value.pointer (some ⟨qb, 0, none⟩), undef, undef, undef, undef, undef, Value.iface 70 (Value.agg #[]), undef, undef, undef, undef, undef, undef, undef, undef, undef, undef, undef] from rfl]
  have heq : ∀ W : World, (binOp .eql 20 (.iface 70 (.agg #[])) .nilIface).run Try.prog W = .ok (.bool false) W := fun W => by kernel_rfl
  have hqA := hq.alloc (.cells #[] 70)
  have ht0 : ∀ W : World, (Instr.typeAssert (.iface 70 (.agg #[])) 20 70 true).run Try.prog W = .ok (.tuple #[.agg #[], .bool true]) W := fun W => by kernel_rfl
  have s2 := (hqA.cell 0).trans (show _ = some e0 from rfl)
  have z1 := hqA.frozen 0
  have r2 := (hq.cell 0).trans (show _ = some e0 from rfl)
  have y1 := hq.frozen 0
  go_wp2
  have g2 := hqA.set_ 0 (.int .i64 22)
  have t2 := ((TurnsIn.refl (fun b => b = qb) w).alloc (.cells #[] 70)).setCell (p := ⟨qb, 0, none⟩) (.inl rfl) (.int .i64 22)
  exact ⟨rfl, _, rfl, _, results_none rfl _ _ _, rfl, rfl, g2, t2⟩

set_option maxHeartbeats 6400000 in
theorem catchL_noKind (qb : Nat) (e0 : Value) (older : List PanicEntry) (w : World) (hq : Block w qb 32 #[e0]) :
    CallsD Try.prog 29 #[.pointer (some ⟨qb, 0, none⟩)] (.panicking ({ v := .iface 71 (.agg #[]), recovered := false } :: older)) w
      (CaughtL qb 21 (.panicking ({ v := .iface 71 (.agg #[]), recovered := true } :: older)) w) := by
  refine callsD_of_wpS Try.func29 rfl fun c₀ cs hu => ?_
  apply wpS_seq
  apply wpS_region
  simp [wpOpsS, go_sem, recoverD, hu, Try.ntmps29, Exit.thenS]
  refine wpS_of_wp ?_
  rw [show (#[Value.pointer (some ⟨qb, 0, none⟩)] ++ (Array.replicate 17 undef).setIfInBounds 5 (Value.iface 71 (Value.agg #[])) : Array Value) = #[Value.pointer (some ⟨qb, 0, none⟩), undef, undef, undef, undef, undef, Value.iface 71 (Value.agg #[]), undef, undef, undef, undef, undef, undef, undef, undef, undef, undef, undef] from rfl]
  have heq : ∀ W : World, (binOp .eql 20 (.iface 71 (.agg #[])) .nilIface).run Try.prog W = .ok (.bool false) W := fun W => by kernel_rfl
  have hqA := hq.alloc (.cells #[] 71)
  have ht0 : ∀ W : World, (Instr.typeAssert (.iface 71 (.agg #[])) 20 70 true).run Try.prog W = .ok (.tuple #[.agg #[], .bool false]) W := fun W => by kernel_rfl
  have ht1 : ∀ W : World, (Instr.typeAssert (.iface 71 (.agg #[])) 20 71 true).run Try.prog W = .ok (.tuple #[.agg #[], .bool true]) W := fun W => by kernel_rfl
  have s2 := (hqA.cell 0).trans (show _ = some e0 from rfl)
  have z1 := hqA.frozen 0
  have r2 := (hq.cell 0).trans (show _ = some e0 from rfl)
  have y1 := hq.frozen 0
  go_wp2
  have g2 := hqA.set_ 0 (.int .i64 21)
  have t2 := ((TurnsIn.refl (fun b => b = qb) w).alloc (.cells #[] 71)).setCell (p := ⟨qb, 0, none⟩) (.inl rfl) (.int .i64 21)
  exact ⟨rfl, _, rfl, _, results_none rfl _ _ _, rfl, rfl, g2, t2⟩

set_option maxHeartbeats 6400000 in
theorem catchL_noForm (qb : Nat) (e0 : Value) (older : List PanicEntry) (w : World) (hq : Block w qb 32 #[e0]) :
    CallsD Try.prog 29 #[.pointer (some ⟨qb, 0, none⟩)] (.panicking ({ v := .iface 72 (.agg #[]), recovered := false } :: older)) w
      (CaughtL qb 3 (.panicking ({ v := .iface 72 (.agg #[]), recovered := true } :: older)) w) := by
  refine callsD_of_wpS Try.func29 rfl fun c₀ cs hu => ?_
  apply wpS_seq
  apply wpS_region
  simp [wpOpsS, go_sem, recoverD, hu, Try.ntmps29, Exit.thenS]
  refine wpS_of_wp ?_
  rw [show (#[Value.pointer (some ⟨qb, 0, none⟩)] ++ (Array.replicate 17 undef).setIfInBounds 5 (Value.iface 72 (Value.agg #[])) : Array Value) = #[Value.pointer (some ⟨qb, 0, none⟩), undef, undef, undef, undef, undef, Value.iface 72 (Value.agg #[]), undef, undef, undef, undef, undef, undef, undef, undef, undef, undef, undef] from rfl]
  have heq : ∀ W : World, (binOp .eql 20 (.iface 72 (.agg #[])) .nilIface).run Try.prog W = .ok (.bool false) W := fun W => by kernel_rfl
  have hqA := hq.alloc (.cells #[] 72)
  have ht0 : ∀ W : World, (Instr.typeAssert (.iface 72 (.agg #[])) 20 70 true).run Try.prog W = .ok (.tuple #[.agg #[], .bool false]) W := fun W => by kernel_rfl
  have ht1 : ∀ W : World, (Instr.typeAssert (.iface 72 (.agg #[])) 20 71 true).run Try.prog W = .ok (.tuple #[.agg #[], .bool false]) W := fun W => by kernel_rfl
  have ht2 : ∀ W : World, (Instr.typeAssert (.iface 72 (.agg #[])) 20 72 true).run Try.prog W = .ok (.tuple #[.agg #[], .bool true]) W := fun W => by kernel_rfl
  have s2 := (hqA.cell 0).trans (show _ = some e0 from rfl)
  have z1 := hqA.frozen 0
  have r2 := (hq.cell 0).trans (show _ = some e0 from rfl)
  have y1 := hq.frozen 0
  go_wp2
  have g2 := hqA.set_ 0 (.int .i64 3)
  have t2 := ((TurnsIn.refl (fun b => b = qb) w).alloc (.cells #[] 72)).setCell (p := ⟨qb, 0, none⟩) (.inl rfl) (.int .i64 3)
  exact ⟨rfl, _, rfl, _, results_none rfl _ _ _, rfl, rfl, g2, t2⟩
end Go.Proofs.Ytngeemfcmoahoaa.Tv

namespace Go.Proofs.Ytngeemfcmoahoaa.Tv
open Go.ChangeShapes Go.WideShapes Go.ChangeAt Go.RowKit Go.Proofs.Ytngeemfcmoahoaa.Kit Go.Proofs.Ytngeemfcmoahoaa.Tx Go.Proofs.Ytngeemfcmoahoaa.Ty Go.Proofs.Ytngeemfcmoahoaa.Tz

/-- What a line comes to. -/
def lineR (p : PS) (t : List Int) (b : Bool) : Except Int PS := if b = false then .error 22 else lineL p t
def LineQ (B g : Nat) (p : PS) (t : List Int) (b : Bool) (va : Value) (w : World) (e : Ending) (w' : World) : Prop :=
  TurnsIn (fun x => x = g ∨ va.ownBlock = some x) w w' ∧ match lineR p t b with
  | .error n => e = .returned (.int .i64 n)
  | .ok q => e = .returned (.int .i64 0) ∧ ∃ vs vi va' es, PAt w' B g q vs vi va' es ∧ Newer w va va'
theorem LineQ.no {B g : Nat} {p : PS} {t : List Int} {b : Bool} {va : Value} {w w' : World} {n : Int} (h : lineR p t b = .error n) (ht : TurnsIn (fun x => x = g ∨ va.ownBlock = some x) w w') : LineQ B g p t b va w (.returned (.int .i64 n)) w' := by
  unfold LineQ
  rw [h]
  exact ⟨ht, rfl⟩
theorem LineQ.yes {B g : Nat} {p q : PS} {t : List Int} {b : Bool} {va : Value} {w w' : World} (h : lineR p t b = .ok q) (ht : TurnsIn (fun x => x = g ∨ va.ownBlock = some x) w w') {vs vi va' : Value} {es : List (ActV × Value)} (hp : PAt w' B g q vs vi va' es) (hn : Newer w va va') : LineQ B g p t b va w (.returned (.int .i64 0)) w' := by
  unfold LineQ
  rw [h]
  exact ⟨ht, rfl, _, _, _, _, hp, hn⟩
theorem PAt.add {w5 w6 : World} {B g : Nat} {p : PS} {vs vi va v6 u : Value} {es : List (ActV × Value)} {a : ActV} (h : PAt w5 B g p vs vi va es) (ou : Own w5 B 5 .u8 u a.d) (t6 : TurnsIn (fun b => va.ownBlock = some b) w5 w6) (O6 : OwnE w6 B v6 (es ++ [(a, u)])) :
    PAt (w6.setCell ⟨g, 7, none⟩ v6) B g { p with al := p.al ++ [a] } vs vi v6 (es ++ [(a, u)]) := by
  have b6 := h.blk.out t6 (h.oa.ne_block h.blk (by decide))
  have keep : ∀ (o : Value) (xs : List Int), Own w5 B 5 .u8 o xs → Own (w6.setCell ⟨g, 7, none⟩ v6) B 5 .u8 o xs := fun o xs ho => by
    have h1 := ho.out t6 (fun x hx he => by
      obtain ⟨cs, hc⟩ := own_block ho hx
      obtain ⟨ds, hd⟩ := h.oa.block he
      exact absurd (block_type hc hd) (by decide))
    exact h1.out ((TurnsIn.refl (fun b => b = g) w6).setCell (p := ⟨g, 7, none⟩) (.inl rfl) v6) (fun x hx he => h1.ne_block b6 (by decide) (by rw [hx, he]))
  refine ⟨b6.set_ 7 v6, keep _ _ h.os, keep _ _ h.oi, O6.out ((TurnsIn.refl (fun b => b = g) w6).setCell (p := ⟨g, 7, none⟩) (.inl rfl) v6) (fun x hx he => O6.ne_block b6 (by decide) (by rw [hx, he])), ?_, fun x hx => ?_⟩
  · rw [List.map_append, h.al]; rfl
  · rcases List.mem_append.1 hx with hx | hx
    · exact keep _ _ (h.ds x hx)
    · obtain rfl : x = (a, u) := by simpa using hx
      exact keep _ _ ou
theorem step_append_act {w : World} {B : Nat} {v : Value} {es : List (ActV × Value)} {ops : Array Oper} {o : Oper} {a : Act} {K : Act → World → Prop} {Q : Exit → Act → World → Prop} {E : Prop} (hg : o.guard = none) (s x : Operand)
    (ho : o.op = Op.call { callee := Callee.builtin Builtin.append, args := #[s, x], argTypes := #[31, 31] })
    (q : ActV) (A : Option Addr) (n m : Nat) (hown : OwnE w B v es) (hs : a.eval s = v) {c : Nat} (hx : a.eval x = .slice (some ⟨w.heap.size, 0, none⟩) 1 c) (hsz : es.length ≤ 1000000) (hbase : B ≤ w.heap.size)
    (hK : ∀ A' c' w', OwnE w' B (.slice A' (es.length + 1) c') (es ++ [(q, .slice A n m)]) → TurnsIn (fun b => v.ownBlock = some b) w w' → Newer w v (.slice A' (es.length + 1) c') → K (a.put o.dst (.slice A' (es.length + 1) c')) w') :
    if Region.wanted o (yielded ops a.tmps) = true then Oper.wp Try.prog o a (w.alloc (.cells #[.int .u8 q.k, .int .u8 q.m, .int .i64 q.p, .int .i64 q.n, .int .u64 q.v, .slice A n m] 40)) K Q else E := by
  have hw : Region.wanted o (yielded ops a.tmps) = true := by simp [Region.wanted, hg]
  rw [if_pos hw]
  obtain ⟨A', c', w', hrun, h2, h3, h4⟩ := run_append_act hown q A n m c hsz hbase o.type
  have hrun' : (Builtin.append_ #[31, 31] o.type #[v, .slice (some ⟨w.heap.size, 0, none⟩) 1 c]).run Try.prog (w.alloc (.cells #[.int .u8 q.k, .int .u8 q.m, .int .i64 q.p, .int .i64 q.n, .int .u64 q.v, .slice A n m] 40)) = .ok (.slice A' (es.length + 1) c') w' := hrun
  unfold Oper.wp
  simp [execOp, ho, resolve, invoke, builtin, hs, hx, hrun', Result.andThen]
  exact hK _ _ _ h2 h3 h4
theorem ActP.ok {g : Nat} {ws : List (List Int)} {k : Int} {w w' : World} {e : Ending} {a : ActV} (h : ActP g ws k w e w') (ha : actG ws k = some a) : TurnsIn (fun b => b = g) w w' ∧ ∃ A c, e = .returned (actV a (.slice A a.d.length c)) ∧ Own w' w.heap.size 5 .u8 (.slice A a.d.length c) a.d := by
  unfold ActP at h
  rw [ha] at h
  obtain ⟨h1, v, h2, h3⟩ := h
  obtain ⟨A, c, rfl, _, _, _⟩ := h3.opened
  exact ⟨h1, A, c, h2, h3⟩
/-- A post that no panic meets. -/
def NoPan (Q : Exit → Act → World → Prop) : Exit → Act → World → Prop
  | .panic _, _, _ => False
  | e, a, w => Q e a w
theorem NoPan.to {Q : Exit → Act → World → Prop} : ∀ (e : Exit) (a : Act) (w : World), NoPan Q e a w → Q e a w
  | .panic _, _, _, h => h.elim
  | .normal, _, _, h => h
  | .ret, _, _, h => h
  | .exit _, _, _, h => h
  | .goto _, _, _, h => h
  | .outgrown, _, _, h => h
theorem leaves_same {fn : Func} {t1 t2 : Array Value} {R : Ending → World → Prop} (h : results fn t1 = results fn t2) : ∀ (ds : List Deferred) (u : FrameMode) (w : World), Leaves Try.prog fn t1 R ds u w → Leaves Try.prog fn t2 R ds u w
  | [], .returning, w, hl => by
    obtain ⟨v, h1, h2⟩ := hl
    exact ⟨v, by rw [← h]; exact h1, h2⟩
  | [], .panicking _, _, hl => hl
  | [], .run, _, hl => hl.elim
  | d :: ds, u, w, hl => by
    obtain ⟨hu, fv, cap, f, args, h1, h2, h3⟩ := hl
    refine ⟨hu, fv, cap, f, args, h1, h2, h3.mono ?_⟩
    intro e u' w' h4
    cases e with
    | returned v => exact leaves_same h ds _ _ h4
    | panicked c => exact leaves_same h ds _ _ h4
    | outgrown => exact h4
theorem panic_put {R : Ending → World → Prop} {i : Nat} {v : Value} (hi : i ≠ 4) (c : List PanicEntry) (a : Act) (w : World) (h : bodyPostD Try.prog Try.f20 R (.panic c) (a.put (some i) v) w) : bodyPostD Try.prog Try.f20 R (.panic c) a w := by
  refine leaves_same ?_ _ _ _ h
  unfold results
  rw [Try.results20]
  simp [Act.put, Array.getElem?_setIfInBounds_ne hi]
theorem PAt.far {w w' : World} {B g q : Nat} {T : TypeId} {cs : Array Value} {p : PS} {vs vi va : Value} {es : List (ActV × Value)} (h : PAt w B g p vs vi va es) (hq : Block w q T cs) (t : TurnsIn (fun b => b = q) w w') (hT : T ≠ 56 ∧ T ≠ 40 ∧ T ≠ 5 := by decide) : PAt w' B g p vs vi va es :=
  h.out t (fun e => hT.1 (by subst e; exact block_type hq h.blk)) (fun x hx e => h.oa.ne_block hq (Ne.symm hT.2.1) (by rw [hx, e])) (fun x cs hx e => hT.2.2 (by subst e; exact block_type hq hx))
theorem ws_pos (cs : List Int) : 0 < (wordsL cs).length := List.length_pos_iff.2 (wordsL_ne cs)
theorem ws_oct {cs : List Int} (h : Octets cs) (hl : cs.length ≤ 1000000) : ∀ v ∈ wordsL cs, Octets v ∧ v.length ≤ 1000000 := fun v hv => by
  obtain ⟨h1, h2⟩ := wordsL_mem cs v hv
  exact ⟨fun x hx => h x (h1 x hx).1, Nat.le_trans h2 hl⟩

set_option maxRecDepth 100000 in
set_option maxHeartbeats 12800000 in
theorem line_any (B g : Nat) (p : PS) (vs vi va : Value) (es : List (ActV × Value)) (s : ByteArray) (b : Bool) (w : World) (hs : s.size ≤ 1000000) (hn : es.length ≤ 1000000) (hB : B ≤ w.heap.size) (hP : PAt w B g p vs vi va es) :
    Calls Try.prog 20 #[.pointer (some ⟨g, 0, none⟩), .agg #[.string s, .bool b]] w (LineQ B g p (numsOf s) b va w) := by
  have hg := hP.blk.lt
  obtain ⟨w1, hw1⟩ : ∃ w1, (w.alloc (.cells #[.string s, .bool b] 61)).alloc (.cells #[.int .i64 0] 32) = w1 := ⟨_, rfl⟩
  have s1 : w1.heap.size = w.heap.size + 2 := by rw [← hw1]; simp
  have t1 : TurnsIn (fun x => x = g ∨ va.ownBlock = some x) w w1 := by rw [← hw1]; exact ((TurnsIn.refl _ w).alloc _).alloc _
  have l1 : Block w1 w.heap.size 61 #[.string s, .bool b] := by rw [← hw1]; exact (Block.new w _ _).alloc _
  have q1 : Block w1 (w.heap.size + 1) 32 #[.int .i64 0] := by
    rw [← hw1]
    have := Block.new (w.alloc (.cells #[.string s, .bool b] 61)) 32 #[.int .i64 0]
    rwa [World.size_alloc] at this
  have p1 : PAt w1 B g p vs vi va es := hP.out ((TurnsIn.refl (fun _ => False) w).alloc (.cells #[.string s, .bool b] 61) |>.alloc (.cells #[.int .i64 0] 32) |> (fun h => by rw [hw1] at h; exact h)) (fun h => h) (fun _ _ h => h) (fun _ _ _ h => h)
  have HW1 := Lib.hid hw1
  have S1 := Lib.hid s1
  have T1 := Lib.hid t1
  have Q1 := Lib.hid q1
  have P1 := Lib.hid p1
  have hmf : ∀ (fn : Fn) (first cap : Array Value) (w : World), (Instr.makeFunc fn first cap).run Try.prog w = .ok (.func fn first cap) w := fun _ _ _ _ => rfl
  have y0 : w1.cell? ⟨w.heap.size, 0, none⟩ = some (.string s) := (l1.cell 0).trans rfl
  have y1 : w1.cell? ⟨w.heap.size, 1, none⟩ = some (.bool b) := (l1.cell 1).trans rfl
  have r0 : w1.cell? ⟨w.heap.size + 1, 0, none⟩ = some (.int .i64 0) := (q1.cell 0).trans rfl
  have rz := q1.frozen 0
  have HL1 := Lib.hid l1
  clear s1 t1 q1 p1 hw1 l1
  cases b with
  | false =>
    have HF := Lib.hid (show lineR p (numsOf s) false = .error 22 by unfold lineR; rw [if_pos rfl])
    go_enter_defers Try.func20, Try.ntmps20
    go_wp2_with fail
    have HW := HW1.out
    first | rw [HW] | skip
    refine leaves_cons (f := 29) (args := #[.pointer (some ⟨w.heap.size + 1, 0, none⟩)]) (by simp) (by simp [go_sem]) ?_
    refine (catchL_noEnd (w.heap.size + 1) (.int .i64 0) [] w1 Q1.out).mono ?_
    rintro e u' w9 ⟨rfl, rfl, g0, t9⟩
    have c0 : w9.cell? ⟨w.heap.size + 1, 0, none⟩ = some (.int .i64 22) := (g0.cell 0).trans rfl
    exact ⟨.int .i64 22, by simp [results, Try.results20, go_sem, c0], LineQ.no HF.out ((T1.out).then_ t9 (by omega))⟩
  | true =>
    by_cases h0 : s.size = 0
    · obtain rfl := str_nil h0
      have HF := Lib.hid (show lineR p (numsOf ⟨#[]⟩) true = .ok p by unfold lineR lineL; rw [if_neg (by decide), if_pos (.inl rfl)])
      have s0 : ((⟨#[]⟩ : ByteArray).toList == []) = true := by rw [ByteArray.toList_eq]; rfl
      clear h0
      go_enter_defers Try.func20, Try.ntmps20
      go_upto_region 2 with (fail)
      rw [HW1.out]
      go_wp2_with fail
      refine leaves_cons (f := 29) (args := #[.pointer (some ⟨w.heap.size + 1, 0, none⟩)]) (by simp) (by simp [go_sem]) ?_
      refine (catchL_idle ⟨w.heap.size + 1, 0, none⟩ _).mono ?_
      rintro e u' w9 ⟨rfl, rfl, hw9⟩
      subst hw9
      have g0 := (Q1.out).set_ 0 (.int .i64 0)
      have c0 := (g0.cell 0).trans (show _ = some (Value.int .i64 0) from rfl)
      exact ⟨.int .i64 0, by simp [results, Try.results20, go_sem, c0], LineQ.yes HF.out ((T1.out).then_ ((TurnsIn.refl (fun x => x = w.heap.size + 1) _).setCell (p := ⟨w.heap.size + 1, 0, none⟩) (.inl rfl) (.int .i64 0)) (by omega)) ((P1.out).far (Q1.out) ((TurnsIn.refl (fun x => x = w.heap.size + 1) _).setCell (p := ⟨w.heap.size + 1, 0, none⟩) (.inl rfl) (.int .i64 0))) (Newer.refl _ _)⟩
    obtain ⟨e0, e1⟩ := str_ne h0
    have hsz : 0 < s.size := by omega
    have hne : numsOf s ≠ [] := by intro h; have := numsOf_length s; rw [h] at this; simp at this; omega
    have hc0 := numsOf_get s 0 hsz
    by_cases h35 : s[0].toNat = 35
    · have HF := Lib.hid (show lineR p (numsOf s) true = .ok p by unfold lineR lineL; rw [if_neg (by decide), if_pos (.inr (by rw [hc0, h35]; rfl))])
      have d4 : (((s[0].toNat : Nat) : Int) == 35) = true := by rw [beq_iff_eq]; omega
      clear h0 hne hc0 h35
      go_enter_defers Try.func20, Try.ntmps20
      go_upto_region 2 with (fail)
      rw [HW1.out]
      go_wp2_with fail
      refine leaves_cons (f := 29) (args := #[.pointer (some ⟨w.heap.size + 1, 0, none⟩)]) (by simp) (by simp [go_sem]) ?_
      refine (catchL_idle ⟨w.heap.size + 1, 0, none⟩ _).mono ?_
      rintro e u' w9 ⟨rfl, rfl, hw9⟩
      subst hw9
      have g0 := (Q1.out).set_ 0 (.int .i64 0)
      have c0 := (g0.cell 0).trans (show _ = some (Value.int .i64 0) from rfl)
      exact ⟨.int .i64 0, by simp [results, Try.results20, go_sem, c0], LineQ.yes HF.out ((T1.out).then_ ((TurnsIn.refl (fun x => x = w.heap.size + 1) _).setCell (p := ⟨w.heap.size + 1, 0, none⟩) (.inl rfl) (.int .i64 0)) (by omega)) ((P1.out).far (Q1.out) ((TurnsIn.refl (fun x => x = w.heap.size + 1) _).setCell (p := ⟨w.heap.size + 1, 0, none⟩) (.inl rfl) (.int .i64 0))) (Newer.refl _ _)⟩
    have d4 : (((s[0].toNat : Nat) : Int) == 35) = false := by rw [beq_eq_false_iff_ne]; omega
    have HLR := Lib.hid (show lineR p (numsOf s) true = if p.b = false then beginP p (wordsL (numsOf s)) else match actL (numsOf s) with
        | .error e => .error e
        | .ok a => .ok { p with al := p.al ++ [a] } by
      unfold lineR lineL
      rw [if_neg (by decide), if_neg (fun h => h.elim hne (fun h => h35 (by rw [hc0] at h; omega)))]
      rfl)
    have HO := Lib.hid (ws_oct (numsOf_octets s) (by rw [numsOf_length]; exact hs))
    have HWP := Lib.hid (ws_pos (numsOf s))
    have HWL := Lib.hid (show (wordsL (numsOf s)).length ≤ 1000001 by have := wordsL_length (numsOf s); rw [numsOf_length] at this; omega)
    have GS := Lib.hid (split_any s w1 hs)
    have HACT := Lib.hid (actL_is (numsOf s))
    obtain ⟨ws, hws⟩ : ∃ ws, wordsL (numsOf s) = ws := ⟨_, rfl⟩
    unfold SplitTo at GS
    rw [hws] at HLR HO HWP HWL GS HACT
    rw [S1.out] at GS
    have GT := Lib.hid (fun W (h : WordsAt W (w.heap.size + 2) ws 0) => take_ok (w.heap.size + 2) 0 ws W h HWP.out (by omega))
    obtain ⟨fw, hfw⟩ : ∃ fw, strOfNums (ws.getD 0 []) = fw := ⟨_, rfl⟩
    have HNF := Lib.hid (show numsOf fw = ws.getD 0 [] by rw [← hfw]; exact nums_str (octets_mem HO.out 0).1)
    rw [hfw] at GT
    clear h0 hne hc0 h35 hws hfw
    by_cases hb : p.b = false
    · have HLR2 := Lib.hid (show lineR p (numsOf s) true = beginP p ws by rw [HLR.out, if_pos hb])
      by_cases hwd : numsOf fw = worldW
      · have HBE := Lib.hid (show lineR p (numsOf s) true = match fieldsL ws worldF with
          | none => .error 3
          | some (ns, ts) => .ok ⟨true, ns.getD 0 0, ns.getD 1 0, ns.getD 2 0, ts.getD 0 [], ts.getD 1 [], ns.getD 3 0, p.al⟩ by
          rw [HLR2.out]; unfold beginP; rw [if_pos (by rw [← HNF.out]; exact hwd)]; rfl)
        have f0 : (fw.toList == [119, 111, 114, 108, 100]) = true := toList_yes hwd
        cases hfl : fieldsL ws worldF with
        | none =>
          have HF := Lib.hid (show lineR p (numsOf s) true = .error 3 by rw [HBE.out, hfl])
          go_enter_defers Try.func20, Try.ntmps20
          go_upto_region 2 with (fail)
          rw [HW1.out]
          go_wp2_with fail
          refine GS.out.mono ?_
          rintro e w2 ⟨rfl, hwd2, hb2⟩
          have T2 := Lib.hid (show TurnsIn (fun x => x = g ∨ va.ownBlock = some x) w w2 from T1.out.trans (.ofNew (by rw [S1.out]; exact hb2)))
          have Q2 := Lib.hid (Q1.out.below hb2 (by omega))
          have P2 := Lib.hid (P1.out.out (S := fun _ => False) (.ofNew (by rw [S1.out]; exact hb2)) (fun h => h) (fun _ _ h => h) (fun _ _ _ h => h))
          have HWD2 := Lib.hid hwd2
          clear hwd2 hb2
          go_wp2_with fail
          refine (GT.out _ HWD2.out).mono ?_
          rintro e w3 ⟨rfl, hk⟩
          have HWD3 := Lib.hid (took_words HWD2.out hk)
          have hk3 := took_turns hk
          have T3 := Lib.hid (T2.out.then_ hk3 (by omega))
          have Q3 := Lib.hid (Q2.out.out hk3 (by omega))
          have P3 := Lib.hid (P2.out.far HWD2.out hk3)
          clear hk3 hk
          have pb := (P3.out.blk.cell 0).trans (show _ = some (Value.bool p.b) from rfl)
          rw [hb] at pb
          go_wp2_with fail
          have hob := P3.out.os.opened
          obtain ⟨A5, c5, hv5, _, _, _⟩ := hob
          have hoi := P3.out.oi.opened
          obtain ⟨A6, c6, hv6, _, _, _⟩ := hoi
          have hoa := P3.out.oa.opened
          obtain ⟨A7, c7, hv7, _, _⟩ := hoa
          have GW := world_any (w.heap.size + 2) g ws p.b p.c0 p.c1 p.c2 p.v A5 A6 A7 p.sd.length c5 p.im.length c6 es.length c7 w3 HO.out (by omega) HWD3.out (by have := P3.out.blk; rw [hv5, hv6, hv7] at this; exact this)
          rw [← hv7] at GW
          clear hv5 hv6 hv7
          have GW2 : Calls Try.prog 34 #[.pointer (some ⟨g, 0, none⟩), .pointer (some ⟨w.heap.size + 2, 0, none⟩)] w3 fun e w' => e = thrownF ∧ TurnsIn (fun b => b = w.heap.size + 2 ∨ b = g) w3 w' := GW.mono fun e w' h => by
            unfold WorldQ at h
            rw [hfl] at h
            exact ⟨h.2, h.1⟩
          unfold thrownF at GW2
          refine GW2.mono ?_
          rintro e w4 ⟨rfl, ht4⟩
          have T4 := Lib.hid (T3.out.then_ ht4 (fun b hb h => by rcases h with h | h; exact absurd h (by omega); exact .inl h))
          have Q4 := Lib.hid (Q3.out.out ht4 (by omega))
          go_wp2_with fail
          refine leaves_cons (f := 29) (args := #[.pointer (some ⟨w.heap.size + 1, 0, none⟩)]) (by simp) (by simp [go_sem]) ?_
          refine (catchL_noForm (w.heap.size + 1) (.int .i64 0) [] w4 Q4.out).mono ?_
          rintro e u' w9 ⟨rfl, rfl, g0, t9⟩
          have c0 : w9.cell? ⟨w.heap.size + 1, 0, none⟩ = some (.int .i64 3) := (g0.cell 0).trans rfl
          exact ⟨.int .i64 3, by simp [results, Try.results20, go_sem, c0], LineQ.no HF.out ((T4.out).then_ t9 (by omega))⟩
        | some q =>
          obtain ⟨ns, ts⟩ := q
          have HF := Lib.hid (show lineR p (numsOf s) true = .ok ⟨true, ns.getD 0 0, ns.getD 1 0, ns.getD 2 0, ts.getD 0 [], ts.getD 1 [], ns.getD 3 0, p.al⟩ by rw [HBE.out, hfl])
          go_enter_defers Try.func20, Try.ntmps20
          go_upto_region 2 with (fail)
          rw [HW1.out]
          go_wp2_with fail
          refine GS.out.mono ?_
          rintro e w2 ⟨rfl, hwd2, hb2⟩
          have T2 := Lib.hid (show TurnsIn (fun x => x = g ∨ va.ownBlock = some x) w w2 from T1.out.trans (.ofNew (by rw [S1.out]; exact hb2)))
          have Q2 := Lib.hid (Q1.out.below hb2 (by omega))
          have P2 := Lib.hid (P1.out.out (S := fun _ => False) (.ofNew (by rw [S1.out]; exact hb2)) (fun h => h) (fun _ _ h => h) (fun _ _ _ h => h))
          have HWD2 := Lib.hid hwd2
          clear hwd2 hb2
          go_wp2_with fail
          refine (GT.out _ HWD2.out).mono ?_
          rintro e w3 ⟨rfl, hk⟩
          have HWD3 := Lib.hid (took_words HWD2.out hk)
          have hk3 := took_turns hk
          have T3 := Lib.hid (T2.out.then_ hk3 (by omega))
          have Q3 := Lib.hid (Q2.out.out hk3 (by omega))
          have P3 := Lib.hid (P2.out.far HWD2.out hk3)
          clear hk3 hk
          have pb := (P3.out.blk.cell 0).trans (show _ = some (Value.bool p.b) from rfl)
          rw [hb] at pb
          go_wp2_with fail
          have hob := P3.out.os.opened
          obtain ⟨A5, c5, hv5, _, _, _⟩ := hob
          have hoi := P3.out.oi.opened
          obtain ⟨A6, c6, hv6, _, _, _⟩ := hoi
          have hoa := P3.out.oa.opened
          obtain ⟨A7, c7, hv7, _, _⟩ := hoa
          have GW := world_any (w.heap.size + 2) g ws p.b p.c0 p.c1 p.c2 p.v A5 A6 A7 p.sd.length c5 p.im.length c6 es.length c7 w3 HO.out (by omega) HWD3.out (by have := P3.out.blk; rw [hv5, hv6, hv7] at this; exact this)
          rw [← hv7] at GW
          clear hv5 hv6 hv7
          have GW2 : Calls Try.prog 34 #[.pointer (some ⟨g, 0, none⟩), .pointer (some ⟨w.heap.size + 2, 0, none⟩)] w3 fun e w' => e = .returned (.tuple #[]) ∧ TurnsIn (fun b => b = w.heap.size + 2 ∨ b = g) w3 w' ∧ ∃ vs vi, Block w' g 56 (cellsP true (ns.getD 0 0) (ns.getD 1 0) (ns.getD 2 0) vs vi (ns.getD 3 0) va) ∧ Own w' w3.heap.size 5 .u8 vs (ts.getD 0 []) ∧ Own w' w3.heap.size 5 .u8 vi (ts.getD 1 []) := GW.mono fun e w' h => by
            unfold WorldQ at h
            rw [hfl] at h
            exact ⟨h.2.1, h.1, h.2.2⟩
          clear GW
          refine GW2.mono ?_
          rintro e w4 ⟨rfl, ht4, vs4, vi4, hb4, hs4, hi4⟩
          have T4 := Lib.hid (T3.out.then_ ht4 (fun b hb h => by rcases h with h | h; exact absurd h (by omega); exact .inl h))
          have Q4 := Lib.hid (Q3.out.out ht4 (by omega))
          have P4 := Lib.hid (show PAt w4 B g ⟨true, ns.getD 0 0, ns.getD 1 0, ns.getD 2 0, ts.getD 0 [], ts.getD 1 [], ns.getD 3 0, p.al⟩ vs4 vi4 va es from
            ⟨hb4, hs4.mono (Nat.le_trans hB T3.out.size), hi4.mono (Nat.le_trans hB T3.out.size), P3.out.oa.out ht4 (fun x hx h => by
              rcases h with h | h
              · exact P3.out.oa.ne_block HWD3.out (by decide) (by rw [hx, h])
              · exact P3.out.oa.ne_block P3.out.blk (by decide) (by rw [hx, h])), P3.out.al, fun x hx => (P3.out.ds x hx).out ht4 (fun y hy h => by
              rcases h with h | h
              · exact (P3.out.ds x hx).ne_block HWD3.out (by decide) (by rw [hy, h])
              · exact (P3.out.ds x hx).ne_block P3.out.blk (by decide) (by rw [hy, h]))⟩)
          have r4 : w4.cell? ⟨w.heap.size + 1, 0, none⟩ = some (.int .i64 0) := (Q4.out.cell 0).trans rfl
          have z4 := Q4.out.frozen 0
          clear hb4 hs4 hi4 ht4 y0 y1 r0 rz
          go_wp2_with fail
          refine leaves_cons (f := 29) (args := #[.pointer (some ⟨w.heap.size + 1, 0, none⟩)]) (by simp) (by simp [go_sem]) ?_
          refine (catchL_idle ⟨w.heap.size + 1, 0, none⟩ _).mono ?_
          rintro e u' w9 ⟨rfl, rfl, hw9⟩
          subst hw9
          have g0 := (Q4.out).set_ 0 (.int .i64 0)
          have c0 := (g0.cell 0).trans (show _ = some (Value.int .i64 0) from rfl)
          exact ⟨.int .i64 0, by simp [results, Try.results20, go_sem, c0], LineQ.yes HF.out ((T4.out).then_ ((TurnsIn.refl (fun x => x = w.heap.size + 1) _).setCell (p := ⟨w.heap.size + 1, 0, none⟩) (.inl rfl) (.int .i64 0)) (by omega)) ((P4.out).far (Q4.out) ((TurnsIn.refl (fun x => x = w.heap.size + 1) _).setCell (p := ⟨w.heap.size + 1, 0, none⟩) (.inl rfl) (.int .i64 0))) (Newer.refl _ _)⟩
      · have HF := Lib.hid (show lineR p (numsOf s) true = .error 21 by rw [HLR2.out]; unfold beginP; rw [if_neg (by rw [← HNF.out]; exact hwd)])
        have f0 : (fw.toList == [119, 111, 114, 108, 100]) = false := toList_ne hwd
        go_enter_defers Try.func20, Try.ntmps20
        go_upto_region 2 with (fail)
        rw [HW1.out]
        go_wp2_with fail
        refine GS.out.mono ?_
        rintro e w2 ⟨rfl, hwd2, hb2⟩
        have T2 := Lib.hid (show TurnsIn (fun x => x = g ∨ va.ownBlock = some x) w w2 from T1.out.trans (.ofNew (by rw [S1.out]; exact hb2)))
        have Q2 := Lib.hid (Q1.out.below hb2 (by omega))
        have P2 := Lib.hid (P1.out.out (S := fun _ => False) (.ofNew (by rw [S1.out]; exact hb2)) (fun h => h) (fun _ _ h => h) (fun _ _ _ h => h))
        have HWD2 := Lib.hid hwd2
        clear hwd2 hb2
        go_wp2_with fail
        refine (GT.out _ HWD2.out).mono ?_
        rintro e w3 ⟨rfl, hk⟩
        have HWD3 := Lib.hid (took_words HWD2.out hk)
        have hk3 := took_turns hk
        have T3 := Lib.hid (T2.out.then_ hk3 (by omega))
        have Q3 := Lib.hid (Q2.out.out hk3 (by omega))
        have P3 := Lib.hid (P2.out.far HWD2.out hk3)
        clear hk3 hk
        have pb := (P3.out.blk.cell 0).trans (show _ = some (Value.bool p.b) from rfl)
        rw [hb] at pb
        go_wp2_with fail
        refine leaves_cons (f := 29) (args := #[.pointer (some ⟨w.heap.size + 1, 0, none⟩)]) (by simp) (by simp [go_sem]) ?_
        refine (catchL_noKind (w.heap.size + 1) (.int .i64 0) [] w3 Q3.out).mono ?_
        rintro e u' w9 ⟨rfl, rfl, g0, t9⟩
        have c0 : w9.cell? ⟨w.heap.size + 1, 0, none⟩ = some (.int .i64 21) := (g0.cell 0).trans rfl
        exact ⟨.int .i64 21, by simp [results, Try.results20, go_sem, c0], LineQ.no HF.out ((T3.out).then_ t9 (by omega))⟩
    have hbt : p.b = true := by cases h : p.b with | true => rfl | false => exact absurd h hb
    have HAC := Lib.hid (show lineR p (numsOf s) true = match formL (numsOf fw) with
        | none => .error 21
        | some (_, k) => match actG ws k with
          | none => .error 3
          | some a => .ok { p with al := p.al ++ [a] } by
      rw [HLR.out, if_neg hb, HACT.out, HNF.out]
      cases formL (ws.getD 0 []) with
      | none => rfl
      | some q => obtain ⟨f, k⟩ := q; simp only []; cases actG ws k <;> rfl)
    clear HLR HACT
    cases hfo : formL (numsOf fw) with
    | none =>
      have HF := Lib.hid (show lineR p (numsOf s) true = .error 21 by rw [HAC.out, hfo])
      go_enter_defers Try.func20, Try.ntmps20
      go_upto_region 2 with (fail)
      rw [HW1.out]
      go_wp2_with fail
      refine GS.out.mono ?_
      rintro e w2 ⟨rfl, hwd2, hb2⟩
      have T2 := Lib.hid (show TurnsIn (fun x => x = g ∨ va.ownBlock = some x) w w2 from T1.out.trans (.ofNew (by rw [S1.out]; exact hb2)))
      have Q2 := Lib.hid (Q1.out.below hb2 (by omega))
      have P2 := Lib.hid (P1.out.out (S := fun _ => False) (.ofNew (by rw [S1.out]; exact hb2)) (fun h => h) (fun _ _ h => h) (fun _ _ _ h => h))
      have HWD2 := Lib.hid hwd2
      clear hwd2 hb2
      go_wp2_with fail
      refine (GT.out _ HWD2.out).mono ?_
      rintro e w3 ⟨rfl, hk⟩
      have HWD3 := Lib.hid (took_words HWD2.out hk)
      have hk3 := took_turns hk
      have T3 := Lib.hid (T2.out.then_ hk3 (by omega))
      have Q3 := Lib.hid (Q2.out.out hk3 (by omega))
      have P3 := Lib.hid (P2.out.far HWD2.out hk3)
      clear hk3 hk
      have pb := (P3.out.blk.cell 0).trans (show _ = some (Value.bool p.b) from rfl)
      rw [hbt] at pb
      have GK := kind_any fw
      unfold kindE at GK
      rw [hfo] at GK
      have HGK := Lib.hid GK
      clear GK
      go_wp2_with fail
      have hS0 : ∃ d, w3.drewN d = w3 := ⟨0, rfl⟩
      clear hS0
      refine wp_region_held_drew (S := (fun W : World => W.cell? ⟨g, 7, none⟩ = some va)) (by kernel_rfl) (by exact (P3.out.blk.cell 7).trans rfl) (fun hS => ?_)
      refine wpAnyH_take (i := 0) (oi := ⟨some 31, _, _, _, _, _⟩) (v := .pointer (some ⟨g, 0, none⟩)) rfl (by kernel_rfl) (by kernel_rfl) (by kernel_rfl) (fun c a w h => panic_put (by decide) c a w h) (Or.inl ⟨by rfl, fun W hW => by go_simp⟩) hS ?_
      try simp only [Act.put, List.setIfInBounds_toArray, List.set_cons_zero, List.set_cons_succ]
      refine wpAnyH_take (i := 1) (oi := ⟨some 32, _, _, _, _, _⟩) (v := .pointer (some ⟨g, 0, none⟩)) rfl (by kernel_rfl) (by kernel_rfl) (by kernel_rfl) (fun c a w h => panic_put (by decide) c a w h) (Or.inl ⟨by rfl, fun W hW => by go_simp⟩) hS ?_
      try simp only [Act.put, List.setIfInBounds_toArray, List.set_cons_zero, List.set_cons_succ]
      refine wpAnyH_take (i := 5) (oi := ⟨some 36, _, _, _, _, _⟩) (v := .pointer (some ⟨w.heap.size + 2, 0, none⟩)) rfl (by kernel_rfl) (by kernel_rfl) (by kernel_rfl) (fun c a w h => panic_put (by decide) c a w h) (Or.inl ⟨by rfl, fun W hW => by go_simp⟩) hS ?_
      try simp only [Act.put, List.setIfInBounds_toArray, List.set_cons_zero, List.set_cons_succ]
      refine wpAnyH_take (i := 6) (oi := ⟨some 37, _, _, _, _, _⟩) (v := .string fw) rfl (by kernel_rfl) (by kernel_rfl) (by kernel_rfl) (fun c a w h => panic_put (by decide) c a w h) (Or.inl ⟨by rfl, fun W hW => by go_simp⟩) hS ?_
      try simp only [Act.put, List.setIfInBounds_toArray, List.set_cons_zero, List.set_cons_succ]
      refine wpAnyH_take (i := 2) (oi := ⟨some 33, _, _, _, _, _⟩) (v := .pointer (some ⟨g, 0, none⟩)) rfl (by kernel_rfl) (by kernel_rfl) (by kernel_rfl) (fun c a w h => panic_put (by decide) c a w h) (Or.inl ⟨by rfl, fun W hW => by go_simp⟩) hS ?_
      try simp only [Act.put, List.setIfInBounds_toArray, List.set_cons_zero, List.set_cons_succ]
      refine wpAnyH_take (i := 3) (oi := ⟨some 34, _, _, _, _, _⟩) (v := .pointer (some ⟨g, 7, none⟩)) rfl (by kernel_rfl) (by kernel_rfl) (by kernel_rfl) (fun c a w h => panic_put (by decide) c a w h) (Or.inl ⟨by rfl, fun W hW => by go_simp⟩) hS ?_
      try simp only [Act.put, List.setIfInBounds_toArray, List.set_cons_zero, List.set_cons_succ]
      refine wpAnyH_take (i := 4) (oi := ⟨some 35, _, _, _, _, _⟩) (v := va) rfl (by kernel_rfl) (by kernel_rfl) (by kernel_rfl) (fun c a w h => panic_put (by decide) c a w h) (Or.inl ⟨by rfl, fun W hW => by go_simp⟩) hS ?_
      try simp only [Act.put, List.setIfInBounds_toArray, List.set_cons_zero, List.set_cons_succ]
      refine wpAnyH_ready (rs := [7]) (by kernel_rfl) (by simp) ?_
      refine AllReadyH.cons rfl (fun K hK => ?_) AllReadyH.nil
      go_simp
      go_at_call 33
      refine (HGK.out _).mono ?_
      rintro e w4 ⟨rfl, hw4⟩
      have T4 := Lib.hid (show TurnsIn (fun x => x = g ∨ va.ownBlock = some x) w w4 by rw [← hw4]; exact T3.out.drewN 1)
      have Q4 := Lib.hid (show Block w4 (w.heap.size + 1) 32 #[.int .i64 0] by rw [← hw4]; exact Q3.out)
      refine leaves_cons (f := 29) (args := #[.pointer (some ⟨w.heap.size + 1, 0, none⟩)]) (by simp) (by simp [go_sem]) ?_
      refine (catchL_noKind (w.heap.size + 1) (.int .i64 0) [] w4 Q4.out).mono ?_
      rintro e u' w9 ⟨rfl, rfl, g0, t9⟩
      have c0 : w9.cell? ⟨w.heap.size + 1, 0, none⟩ = some (.int .i64 21) := (g0.cell 0).trans rfl
      exact ⟨.int .i64 21, by simp [results, Try.results20, go_sem, c0], LineQ.no HF.out ((T4.out).then_ t9 (by omega))⟩
    | some fk =>
      obtain ⟨f, k⟩ := fk
      obtain ⟨_, hk1, hk2⟩ := form_of hfo
      cases hac : actG ws k with
      | none =>
        have HF := Lib.hid (show lineR p (numsOf s) true = .error 3 by rw [HAC.out, hfo]; simp only []; rw [hac])
        go_enter_defers Try.func20, Try.ntmps20
        go_upto_region 2 with (fail)
        rw [HW1.out]
        go_wp2_with fail
        refine GS.out.mono ?_
        rintro e w2 ⟨rfl, hwd2, hb2⟩
        have T2 := Lib.hid (show TurnsIn (fun x => x = g ∨ va.ownBlock = some x) w w2 from T1.out.trans (.ofNew (by rw [S1.out]; exact hb2)))
        have Q2 := Lib.hid (Q1.out.below hb2 (by omega))
        have P2 := Lib.hid (P1.out.out (S := fun _ => False) (.ofNew (by rw [S1.out]; exact hb2)) (fun h => h) (fun _ _ h => h) (fun _ _ _ h => h))
        have HWD2 := Lib.hid hwd2
        clear hwd2 hb2
        go_wp2_with fail
        refine (GT.out _ HWD2.out).mono ?_
        rintro e w3 ⟨rfl, hk⟩
        have HWD3 := Lib.hid (took_words HWD2.out hk)
        have hk3 := took_turns hk
        have T3 := Lib.hid (T2.out.then_ hk3 (by omega))
        have Q3 := Lib.hid (Q2.out.out hk3 (by omega))
        have P3 := Lib.hid (P2.out.far HWD2.out hk3)
        clear hk3 hk
        have pb := (P3.out.blk.cell 0).trans (show _ = some (Value.bool p.b) from rfl)
        rw [hbt] at pb
        have GK := kind_any fw
        unfold kindE at GK
        rw [hfo] at GK
        have HGK := Lib.hid GK
        have GA := Lib.hid (fun W (h : WordsAt W (w.heap.size + 2) ws 1) => act_any (w.heap.size + 2) ws k W ⟨hk1, hk2⟩ HWP.out HWL.out HO.out h)
        clear GK
        go_wp2_with fail
        have hS0 : ∃ d, w3.drewN d = w3 := ⟨0, rfl⟩
        clear hS0
        refine wp_region_held_drew (S := (fun W : World => W.cell? ⟨g, 7, none⟩ = some va)) (by kernel_rfl) (by exact (P3.out.blk.cell 7).trans rfl) (fun hS => ?_)
        refine wpAnyH_take (i := 0) (oi := ⟨some 31, _, _, _, _, _⟩) (v := .pointer (some ⟨g, 0, none⟩)) rfl (by kernel_rfl) (by kernel_rfl) (by kernel_rfl) (fun c a w h => panic_put (by decide) c a w h) (Or.inl ⟨by rfl, fun W hW => by go_simp⟩) hS ?_
        try simp only [Act.put, List.setIfInBounds_toArray, List.set_cons_zero, List.set_cons_succ]
        refine wpAnyH_take (i := 1) (oi := ⟨some 32, _, _, _, _, _⟩) (v := .pointer (some ⟨g, 0, none⟩)) rfl (by kernel_rfl) (by kernel_rfl) (by kernel_rfl) (fun c a w h => panic_put (by decide) c a w h) (Or.inl ⟨by rfl, fun W hW => by go_simp⟩) hS ?_
        try simp only [Act.put, List.setIfInBounds_toArray, List.set_cons_zero, List.set_cons_succ]
        refine wpAnyH_take (i := 5) (oi := ⟨some 36, _, _, _, _, _⟩) (v := .pointer (some ⟨w.heap.size + 2, 0, none⟩)) rfl (by kernel_rfl) (by kernel_rfl) (by kernel_rfl) (fun c a w h => panic_put (by decide) c a w h) (Or.inl ⟨by rfl, fun W hW => by go_simp⟩) hS ?_
        try simp only [Act.put, List.setIfInBounds_toArray, List.set_cons_zero, List.set_cons_succ]
        refine wpAnyH_take (i := 6) (oi := ⟨some 37, _, _, _, _, _⟩) (v := .string fw) rfl (by kernel_rfl) (by kernel_rfl) (by kernel_rfl) (fun c a w h => panic_put (by decide) c a w h) (Or.inl ⟨by rfl, fun W hW => by go_simp⟩) hS ?_
        try simp only [Act.put, List.setIfInBounds_toArray, List.set_cons_zero, List.set_cons_succ]
        refine wpAnyH_take (i := 2) (oi := ⟨some 33, _, _, _, _, _⟩) (v := .pointer (some ⟨g, 0, none⟩)) rfl (by kernel_rfl) (by kernel_rfl) (by kernel_rfl) (fun c a w h => panic_put (by decide) c a w h) (Or.inl ⟨by rfl, fun W hW => by go_simp⟩) hS ?_
        try simp only [Act.put, List.setIfInBounds_toArray, List.set_cons_zero, List.set_cons_succ]
        refine wpAnyH_take (i := 3) (oi := ⟨some 34, _, _, _, _, _⟩) (v := .pointer (some ⟨g, 7, none⟩)) rfl (by kernel_rfl) (by kernel_rfl) (by kernel_rfl) (fun c a w h => panic_put (by decide) c a w h) (Or.inl ⟨by rfl, fun W hW => by go_simp⟩) hS ?_
        try simp only [Act.put, List.setIfInBounds_toArray, List.set_cons_zero, List.set_cons_succ]
        refine wpAnyH_take (i := 4) (oi := ⟨some 35, _, _, _, _, _⟩) (v := va) rfl (by kernel_rfl) (by kernel_rfl) (by kernel_rfl) (fun c a w h => panic_put (by decide) c a w h) (Or.inl ⟨by rfl, fun W hW => by go_simp⟩) hS ?_
        try simp only [Act.put, List.setIfInBounds_toArray, List.set_cons_zero, List.set_cons_succ]
        refine wpAnyH_ready (rs := [7]) (by kernel_rfl) (by simp) ?_
        refine AllReadyH.cons rfl (fun K hK => ?_) AllReadyH.nil
        go_simp
        go_at_call 33
        refine (HGK.out _).mono ?_
        rintro e w4 ⟨rfl, hw4⟩
        have T4 := Lib.hid (show TurnsIn (fun x => x = g ∨ va.ownBlock = some x) w w4 by rw [← hw4]; exact T3.out.drewN 1)
        have Q4 := Lib.hid (show Block w4 (w.heap.size + 1) 32 #[.int .i64 0] by rw [← hw4]; exact Q3.out)
        have D4 := Lib.hid (show WordsAt w4 (w.heap.size + 2) ws 1 by rw [← hw4]; exact HWD3.out)
        have hS4 : w4.cell? ⟨g, 7, none⟩ = some va := by rw [← hw4]; exact (P3.out.blk.cell 7).trans rfl
        clear hw4
        refine hK.out _ _ hS4 (fun hS => ?_)
        clear hK K
        try simp only [Act.put, List.setIfInBounds_toArray, List.set_cons_zero, List.set_cons_succ]
        refine wpAnyH_ready (rs := [8]) (by kernel_rfl) (by simp) ?_
        refine AllReadyH.cons rfl (fun K hK => ?_) AllReadyH.nil
        go_simp
        go_at_call 32
        refine (GA.out _ D4.out).mono ?_
        intro e w5 h5
        unfold ActP at h5
        rw [hac] at h5
        obtain ⟨t5, rfl⟩ := h5
        have T5 := Lib.hid (T4.out.then_ t5 (by omega))
        have Q5 := Lib.hid (Q4.out.out t5 (by omega))
        refine leaves_cons (f := 29) (args := #[.pointer (some ⟨w.heap.size + 1, 0, none⟩)]) (by simp) (by simp [go_sem]) ?_
        refine (catchL_noForm (w.heap.size + 1) (.int .i64 0) [] w5 Q5.out).mono ?_
        rintro e u' w9 ⟨rfl, rfl, g0, t9⟩
        have c0 : w9.cell? ⟨w.heap.size + 1, 0, none⟩ = some (.int .i64 3) := (g0.cell 0).trans rfl
        exact ⟨.int .i64 3, by simp [results, Try.results20, go_sem, c0], LineQ.no HF.out ((T5.out).then_ t9 (by omega))⟩
      | some a =>
        have HF := Lib.hid (show lineR p (numsOf s) true = .ok { p with al := p.al ++ [a] } by rw [HAC.out, hfo]; simp only []; rw [hac])
        go_enter_defers Try.func20, Try.ntmps20
        go_upto_region 2 with (fail)
        rw [HW1.out]
        go_wp2_with fail
        refine GS.out.mono ?_
        rintro e w2 ⟨rfl, hwd2, hb2⟩
        have T2 := Lib.hid (show TurnsIn (fun x => x = g ∨ va.ownBlock = some x) w w2 from T1.out.trans (.ofNew (by rw [S1.out]; exact hb2)))
        have Q2 := Lib.hid (Q1.out.below hb2 (by omega))
        have P2 := Lib.hid (P1.out.out (S := fun _ => False) (.ofNew (by rw [S1.out]; exact hb2)) (fun h => h) (fun _ _ h => h) (fun _ _ _ h => h))
        have HWD2 := Lib.hid hwd2
        clear hwd2 hb2
        go_wp2_with fail
        refine (GT.out _ HWD2.out).mono ?_
        rintro e w3 ⟨rfl, hk⟩
        have HWD3 := Lib.hid (took_words HWD2.out hk)
        have hk3 := took_turns hk
        have T3 := Lib.hid (T2.out.then_ hk3 (by omega))
        have Q3 := Lib.hid (Q2.out.out hk3 (by omega))
        have P3 := Lib.hid (P2.out.far HWD2.out hk3)
        clear hk3 hk
        have pb := (P3.out.blk.cell 0).trans (show _ = some (Value.bool p.b) from rfl)
        rw [hbt] at pb
        have GK := kind_any fw
        unfold kindE at GK
        rw [hfo] at GK
        have HGK := Lib.hid GK
        have GA := Lib.hid (fun W (h : WordsAt W (w.heap.size + 2) ws 1) => act_any (w.heap.size + 2) ws k W ⟨hk1, hk2⟩ HWP.out HWL.out HO.out h)
        have D3 : WordsAt w3.drew (w.heap.size + 2) ws 1 := HWD3.out
        have HGA := Lib.hid ((GA.out _ D3).mono fun e w' h => ActP.ok h hac)
        have pa := (P3.out.blk.cell 7).trans (show _ = some va from rfl)
        obtain ⟨n5, hn5⟩ : ∃ n, a.d.length = n := ⟨_, rfl⟩
        rw [hn5] at HGA
        obtain ⟨ka, ma, pp, na, va', da⟩ := a
        unfold actV at HGA
        simp only at HGA hn5
        have HN5 := Lib.hid hn5
        have HFA := HF
        clear GK GA D3 hn5 HF hac hfo HAC y0 y1 r0 rz e0 e1 d4 hb
        go_wp2_with fail
        refine wp_mono ?_ NoPan.to
        go_region_law (first
          | (go_simp; go_at_call 33; refine (HGK.out _).mono ?_; rintro e w4 ⟨rfl, rfl⟩)
          | (go_simp; go_at_call 32; refine HGA.out.mono ?_; rintro e w5 ⟨t5, A5, c5, rfl, own5⟩; have t5' : TurnsIn (fun b => b = w.heap.size + 2) w3 w5 := ⟨t5.os, t5.tape, t5.output, t5.size, t5.block⟩; have P5 := P3.out.far HWD3.out t5'; have T5 := Lib.hid (T3.out.then_ t5' (by omega)); have Q5 := Lib.hid (Q3.out.out t5' (by omega)); have O5 := P5.oa; have B5 : B ≤ w5.heap.size := Nat.le_trans (Nat.le_trans hB T3.out.size) t5'.size; have r5 := (P5.blk.cell 7).trans (show _ = some va from rfl); have r6 := ((P5.blk.alloc (.cells #[.int .u8 ka, .int .u8 ma, .int .i64 pp, .int .i64 na, .int .u64 va', .slice A5 n5 c5] 40)).cell 7).trans (show _ = some va from rfl); have s35 := t5'.size; have HP5 := Lib.hid P5; have HOW5 := Lib.hid (own5.mono (B' := B) (Nat.le_trans hB T3.out.size)); clear t5 t5' P5 own5)
          | (have _t := O5; refine step_append_act (by rfl) _ _ (by rfl) ⟨ka, ma, pp, na, va', da⟩ A5 n5 c5 (by exact O5) (by rfl) (by rfl) hn B5 ?_; intro A6 c6 w6 O6 t6 n6; have b6 := HP5.out.blk.out t6 (O5.ne_block HP5.out.blk (by decide)); have x6 := (b6.cell 7).trans (show _ = some va from rfl); have z6 := b6.frozen 7; have HB6 := Lib.hid b6; have HO6 := Lib.hid O6; have HT6 := Lib.hid t6; have HN6 := Lib.hid n6; have Q6 := Lib.hid (Q5.out.out t6 (O5.ne_block Q5.out (by decide))); clear _t b6 O6 t6 n6))
        all_goals
          have P6 := Lib.hid (HP5.out.add HOW5.out HT6.out HO6.out)
          have T6 := Lib.hid ((T5.out.trans (HT6.out.mono fun b _ hb => .inr hb)).setCell (p := ⟨g, 7, none⟩) (.inl (.inl rfl)) (.slice A6 (es.length + 1) c6))
          have hgn : w.heap.size + 1 ≠ g := by omega
          have Q7 := Lib.hid (Q6.out.far (p := ⟨g, 7, none⟩) hgn (.slice A6 (es.length + 1) c6))
          have r9 := (Q7.out.cell 0).trans (show _ = some (Value.int .i64 0) from rfl)
          have z9 := Q7.out.frozen 0
          have HF := HFA
          have HNW := Lib.hid (show Newer w va (.slice A6 (es.length + 1) c6) from by
            rcases HN6.out with h | h
            · exact .inl h
            · exact .inr fun x hx => Nat.le_trans (Nat.le_trans T3.out.size (by have := T5.out.size; omega)) (h x hx))
          unfold NoPan
          go_wp2_with fail
          refine leaves_cons (f := 29) (args := #[.pointer (some ⟨w.heap.size + 1, 0, none⟩)]) (by simp) (by simp [go_sem]) ?_
          refine (catchL_idle ⟨w.heap.size + 1, 0, none⟩ _).mono ?_
          rintro e u' w9 ⟨rfl, rfl, hw9⟩
          subst hw9
          have g0 := (Q7.out).set_ 0 (.int .i64 0)
          have c0 := (g0.cell 0).trans (show _ = some (Value.int .i64 0) from rfl)
          exact ⟨.int .i64 0, by simp [results, Try.results20, go_sem, c0], LineQ.yes HF.out ((T6.out).then_ ((TurnsIn.refl (fun x => x = w.heap.size + 1) _).setCell (p := ⟨w.heap.size + 1, 0, none⟩) (.inl rfl) (.int .i64 0)) (by omega)) ((P6.out).far (Q7.out) ((TurnsIn.refl (fun x => x = w.heap.size + 1) _).setCell (p := ⟨w.heap.size + 1, 0, none⟩) (.inl rfl) (.int .i64 0))) (HNW.out)⟩
end Go.Proofs.Ytngeemfcmoahoaa.Tv

namespace Go.Proofs.Ytngeemfcmoahoaa.Tv
open Go.ChangeShapes Go.WideShapes Go.ChangeAt Go.RowKit Go.Proofs.Ytngeemfcmoahoaa.Kit Go.Proofs.Ytngeemfcmoahoaa.Tx Go.Proofs.Ytngeemfcmoahoaa.Ty Go.Proofs.Ytngeemfcmoahoaa.Tz

/-- A whole block is stored over. -/
theorem wpList_store_blk {P : Program} {w : World} {ops : Array Oper} {rest : List Oper} {o : Oper} {a : Act} {Q : Exit → Act → World → Prop} (hgd : o.guard = none) (ty : TypeId) (x y : Operand) (ho : o.op = .store ty x y)
    {g : Nat} {t : TypeId} {cs : Array Value} {ds : List Value} (h : Block w g t cs) (hx : a.eval x = .pointer (some ⟨g, 0, none⟩)) (hy : a.eval y = .agg ds.toArray) (hl : ds.length = cs.size) (hi : (P.info? ty).map (·.size) = some ds.length) (hone : ∀ u ∈ ds, u.oneCell' = true)
    (hK : ∀ w', Block w' g t ds.toArray → w.grownBy w' (some g) → wpList P ops Q rest (a.put o.dst undef) w') : wpList P ops Q (o :: rest) a w := by
  refine wpList_store_mid hgd ty x y ho g 0 ds.toArray hx hy ?_ (by simpa using hi) (all_oneCell_toArray hone) ?_
  · intro j hj
    have hj' : j < cs.size := by simpa [hl] using hj
    exact ⟨by rw [Nat.zero_add, h.cell, Array.getElem?_eq_getElem hj']; rfl, by rw [Nat.zero_add]; exact h.frozen j⟩
  · refine hK _ ?_ (setCells_grown g _ 0 w)
    have := setCells_block ds 0 w _ h (by omega)
    have e : (cs.toList.take 0 ++ (ds ++ cs.toList.drop (0 + ds.length))).toArray = ds.toArray := by
      rw [List.drop_of_length_le (by simp [hl])]
      simp
    rw [e] at this
    simpa using this
theorem step_store_blk {P : Program} {ops : Array Oper} {o : Oper} {a : Act} {w : World} {K : Act → World → Prop} {Q : Exit → Act → World → Prop} {E : Prop} (hgd : o.guard = none) (ty : TypeId) (x y : Operand) (ho : o.op = .store ty x y)
    {g : Nat} {t : TypeId} {cs : Array Value} {ds : List Value} (h : Block w g t cs) (hx : a.eval x = .pointer (some ⟨g, 0, none⟩)) (hy : a.eval y = .agg ds.toArray) (hl : ds.length = cs.size) (hi : (P.info? ty).map (·.size) = some ds.length) (hone : ∀ u ∈ ds, u.oneCell' = true)
    (hK : ∀ w', Block w' g t ds.toArray → w.grownBy w' (some g) → K (a.put o.dst undef) w') : if Region.wanted o (yielded ops a.tmps) = true then Oper.wp P o a w K Q else E :=
  step_of_list (by simp [Region.wanted, hgd]) fun Q' hn => wpList_store_blk hgd ty x y ho h hx hy hl hi hone fun w' h1 h2 => hn _ _ (hK w' h1 h2)
/-- What was read by now, as the document keeps it. -/
def sC (p : PS) (vs vi va : Value) (ln e : Int) : List Value := [.int .i64 p.c0, .int .i64 p.c1, .int .i64 p.c2, vs, vi, .int .i64 p.v, va, .bool p.b, .int .i64 ln, .int .i64 e]
def zS : List Value := [.int .i64 0, .int .i64 0, .int .i64 0, .slice none 0 0, .slice none 0 0, .int .i64 0, .slice none 0 0, .bool false, .int .i64 0, .int .i64 0]
def BeginQ (p : PS) (vs vi va : Value) (ln e0 : Int) (t : List Int) (w : World) (e : Ending) (w' : World) : Prop :=
  Below w.heap.size w w' ∧ match beginP p (wordsL t) with
  | .error k => e = .returned (.agg (sC p vs vi va ln k).toArray)
  | .ok q => ∃ As ns cs Ai ni ci, e = .returned (.agg (sC q (.slice As ns cs) (.slice Ai ni ci) va ln e0).toArray) ∧ Own w' w.heap.size 5 .u8 (.slice As ns cs) q.sd ∧ Own w' w.heap.size 5 .u8 (.slice Ai ni ci) q.im
theorem fields_world {ws : List (List Int)} {ns : List Int} {ts : List (List Int)} (h : fieldsL ws worldF = some (ns, ts)) : ∃ (a0 a1 a2 a3 : Int) (t0 t1 : List Int), ns = [a0, a1, a2, a3] ∧ ts = [t0, t1] := by
  by_cases k : ¬ okN ws 1 ∨ ¬ okN ws 2 ∨ ¬ okN ws 3 ∨ ¬ okN ws 4 ∨ ¬ okT ws 5 ∨ ¬ okT ws 6 ∨ 7 < ws.length
  · rw [world_no k] at h; cases h
  · have h1 : okN ws 1 := Classical.byContradiction fun hh => k (.inl hh)
    have h2 : okN ws 2 := Classical.byContradiction fun hh => k (.inr (.inl hh))
    have h3 : okN ws 3 := Classical.byContradiction fun hh => k (.inr (.inr (.inl hh)))
    have h4 : okN ws 4 := Classical.byContradiction fun hh => k (.inr (.inr (.inr (.inl hh))))
    have h5 : okT ws 5 := Classical.byContradiction fun hh => k (.inr (.inr (.inr (.inr (.inl hh)))))
    have h6 : okT ws 6 := Classical.byContradiction fun hh => k (.inr (.inr (.inr (.inr (.inr (.inl hh))))))
    have h7 : ws.length ≤ 7 := by
      have : ¬ 7 < ws.length := fun hh => k (.inr (.inr (.inr (.inr (.inr (.inr hh))))))
      omega
    rw [world_yes h1 h2 h3 h4 h5 h6 h7] at h
    cases h
    exact ⟨_, _, _, _, _, _, rfl, rfl⟩

set_option maxRecDepth 100000 in
set_option maxHeartbeats 12800000 in
theorem rbegin_any (p : PS) (As Ai Aa : Option Addr) (ns cs ni ci na ca : Nat) (ln e0 : Int) (s : ByteArray) (w : World) (hs : s.size ≤ 100000) :
    Calls Try.prog 35 #[.agg (sC p (.slice As ns cs) (.slice Ai ni ci) (.slice Aa na ca) ln e0).toArray, .string s] w (BeginQ p (.slice As ns cs) (.slice Ai ni ci) (.slice Aa na ca) ln e0 (numsOf s) w) := by
  have B0 := (Below.refl w.heap.size w).alloc (Nat.le_refl _) (.cells (sC p (.slice As ns cs) (.slice Ai ni ci) (.slice Aa na ca) ln e0).toArray 36)
  have B1 := B0.alloc B0.size (.cells zS.toArray 36)
  have k2 := (Block.new w 36 (sC p (.slice As ns cs) (.slice Ai ni ci) (.slice Aa na ca) ln e0).toArray).alloc (.cells zS.toArray 36)
  have k4 := Block.new (w.alloc (.cells (sC p (.slice As ns cs) (.slice Ai ni ci) (.slice Aa na ca) ln e0).toArray 36)) 36 zS.toArray
  rw [show (w.alloc (.cells (sC p (.slice As ns cs) (.slice Ai ni ci) (.slice Aa na ca) ln e0).toArray 36)).heap.size = w.heap.size + 1 by simp] at k4
  obtain ⟨W1, hW1⟩ : ∃ W1, ((w.alloc (.cells (sC p (.slice As ns cs) (.slice Ai ni ci) (.slice Aa na ca) ln e0).toArray 36)).alloc (.cells zS.toArray 36)) = W1 := ⟨_, rfl⟩
  rw [hW1] at B1 k2 k4
  have HW1 := Lib.hid hW1
  have hw1s : W1.heap.size = w.heap.size + 2 := by rw [← hW1]; simp
  have GW := Lib.hid (rwords_any s W1 (by omega))
  have HB1 := Lib.hid B1
  have HK2 := Lib.hid k2
  have HK4 := Lib.hid k4
  have HW1S := Lib.hid hw1s
  have hwl := wordsL_length (numsOf s)
  rw [numsOf_length] at hwl
  have hw0 := ws_pos (numsOf s)
  have HOC := Lib.hid (ws_oct (numsOf_octets s) (by rw [numsOf_length]; omega))
  have HN5 := Lib.hid (nums_str (xs := worldF) (show Octets worldF by unfold Octets; decide))
  have HSF : (⟨#[110, 110, 110, 110, 116, 116]⟩ : ByteArray) = strOfNums worldF := rfl
  clear B0 B1 k2 k4 hW1 hw1s
  unfold sC
  go_enter Try.func35, Try.ntmps35
  go_wp2_with fail
  have hx1 := HW1.out
  unfold sC zS at hx1
  rw [hx1]
  clear hx1
  refine GW.out.mono ?_
  rintro e w3 ⟨v3, rfl, own3, hb3⟩
  obtain ⟨A3, c3, rfl, _, _⟩ := own3.opened
  rw [List.length_map] at own3 ⊢
  obtain ⟨g3, rfl, hg3, hc0⟩ := own3.cellAt (i := 0) (by rw [List.length_map]; exact hw0)
  rw [List.getElem_map] at hc0
  obtain ⟨ws, hws⟩ : ∃ ws, wordsL (numsOf s) = ws := ⟨_, rfl⟩
  have hoc := HOC.out
  have hBQ : ∀ (e : Ending) (w' : World), BeginQ p (.slice As ns cs) (.slice Ai ni ci) (.slice Aa na ca) ln e0 (numsOf s) w e w' ↔ Below w.heap.size w w' ∧ match beginP p ws with
    | .error k => e = .returned (.agg (sC p (.slice As ns cs) (.slice Ai ni ci) (.slice Aa na ca) ln k).toArray)
    | .ok q => ∃ As ns cs Ai ni ci, e = .returned (.agg (sC q (.slice As ns cs) (.slice Ai ni ci) (.slice Aa na ca) ln e0).toArray) ∧ Own w' w.heap.size 5 .u8 (.slice As ns cs) q.sd ∧ Own w' w.heap.size 5 .u8 (.slice Ai ni ci) q.im := fun e w' => by
    unfold BeginQ
    rw [hws]
  have HBQ := Lib.hid hBQ
  simp only [hws] at hc0 own3 hw0 hwl hoc ⊢
  have hc0' : w3.cell? ⟨g3, 0, none⟩ = some (.string (strOfNums (ws.getD 0 []))) := by
    rw [hc0, List.getD_eq_getElem?_getD, List.getElem?_eq_getElem hw0]
    rfl
  have HT : Hid (HoldsT w3 w3.heap.size (some ⟨g3, 0, none⟩) ws) := Lib.hid (fun _ => ⟨g3, 0, rfl, hg3, fun j hj => by
    obtain ⟨g', e', _, hcj⟩ := own3.cellAt (i := j) (by rw [List.length_map]; exact hj)
    injection e' with e'
    injection e' with e1 e2 e3
    subst e1
    rw [List.getElem_map] at hcj
    rw [Nat.zero_add, List.getD_eq_getElem?_getD, List.getElem?_eq_getElem hj]
    exact hcj⟩)
  have HGF := Lib.hid (by have := rfields_any (some ⟨g3, 0, none⟩) ws c3 (strOfNums worldF) w3 (by rw [strOfNums_size]; decide) (by omega) hoc HT.out; rw [HN5.out] at this; exact this)
  have hb3w : Below w.heap.size w w3 := HB1.out.trans (hb3.mono HB1.out.size)
  have q2 := HK2.out.below hb3 (by rw [HW1S.out]; omega)
  have q4 := HK4.out.below hb3 (by rw [HW1S.out]; omega)
  have HQ2 := Lib.hid q2
  have HQ4 := Lib.hid q4
  have HB3 := Lib.hid hb3w
  have hs3 : w.heap.size + 2 ≤ w3.heap.size := by have := hb3.size; rw [HW1S.out] at this; exact this
  obtain ⟨fw, hfw⟩ : ∃ fw, strOfNums (ws.getD 0 []) = fw := ⟨_, rfl⟩
  have HNF := Lib.hid (show numsOf fw = ws.getD 0 [] by rw [← hfw]; exact nums_str (octets_mem hoc 0).1)
  rw [hfw] at hc0'
  rw [HSF] at *
  clear hc0 own3 hb3 hb3w q2 q4 hws hfw hBQ hoc HOC
  by_cases hwd : numsOf fw = worldW
  case neg =>
    have HE := Lib.hid (show beginP p ws = .error 21 by unfold beginP; rw [if_neg (by rw [← HNF.out]; exact hwd)])
    have f0 : (fw.toList == [119, 111, 114, 108, 100]) = false := toList_ne hwd
    have x0 : w3.cell? ⟨w.heap.size, 0, none⟩ = some (.int .i64 p.c0) := HQ2.out.cell 0
    have x1 : w3.cell? ⟨w.heap.size, 1, none⟩ = some (.int .i64 p.c1) := HQ2.out.cell 1
    have x2 : w3.cell? ⟨w.heap.size, 2, none⟩ = some (.int .i64 p.c2) := HQ2.out.cell 2
    have x3 : w3.cell? ⟨w.heap.size, 3, none⟩ = some (.slice As ns cs) := HQ2.out.cell 3
    have x4 : w3.cell? ⟨w.heap.size, 4, none⟩ = some (.slice Ai ni ci) := HQ2.out.cell 4
    have x5 : w3.cell? ⟨w.heap.size, 5, none⟩ = some (.int .i64 p.v) := HQ2.out.cell 5
    have x6 : w3.cell? ⟨w.heap.size, 6, none⟩ = some (.slice Aa na ca) := HQ2.out.cell 6
    have x7 : w3.cell? ⟨w.heap.size, 7, none⟩ = some (.bool p.b) := HQ2.out.cell 7
    have x8 : w3.cell? ⟨w.heap.size, 8, none⟩ = some (.int .i64 ln) := HQ2.out.cell 8
    have x9 : w3.cell? ⟨w.heap.size, 9, none⟩ = some (.int .i64 e0) := HQ2.out.cell 9
    have xz := fun i => HQ2.out.frozen i
    have B4 := HQ4.out.far (p := ⟨w.heap.size, 9, none⟩) (by simp) (.int .i64 21)
    clear hwd
    go_wp2_with (have _t := B4; refine wpList_store_blk (cs := zS.toArray) rfl _ _ _ rfl (ds := [.int .i64 p.c0, .int .i64 p.c1, .int .i64 p.c2, .slice As ns cs, .slice Ai ni ci, .int .i64 p.v, .slice Aa na ca, .bool p.b, .int .i64 ln, .int .i64 21]) (by exact B4) rfl rfl rfl (by kernel_rfl) (by intro u hu; simp only [List.mem_cons, List.mem_nil_iff, or_false] at hu; rcases hu with rfl | rfl | rfl | rfl | rfl | rfl | rfl | rfl | rfl | rfl <;> rfl) ?_; clear _t; intro w7 X7 g7)
    have r0 : w7.cell? ⟨w.heap.size + 1, 0, none⟩ = some (.int .i64 p.c0) := X7.cell 0
    have r1 : w7.cell? ⟨w.heap.size + 1, 1, none⟩ = some (.int .i64 p.c1) := X7.cell 1
    have r2 : w7.cell? ⟨w.heap.size + 1, 2, none⟩ = some (.int .i64 p.c2) := X7.cell 2
    have r3 : w7.cell? ⟨w.heap.size + 1, 3, none⟩ = some (.slice As ns cs) := X7.cell 3
    have r4 : w7.cell? ⟨w.heap.size + 1, 4, none⟩ = some (.slice Ai ni ci) := X7.cell 4
    have r5 : w7.cell? ⟨w.heap.size + 1, 5, none⟩ = some (.int .i64 p.v) := X7.cell 5
    have r6 : w7.cell? ⟨w.heap.size + 1, 6, none⟩ = some (.slice Aa na ca) := X7.cell 6
    have r7 : w7.cell? ⟨w.heap.size + 1, 7, none⟩ = some (.bool p.b) := X7.cell 7
    have r8 : w7.cell? ⟨w.heap.size + 1, 8, none⟩ = some (.int .i64 ln) := X7.cell 8
    have r9 : w7.cell? ⟨w.heap.size + 1, 9, none⟩ = some (.int .i64 21) := X7.cell 9
    refine bodyPost_ret (v := .agg #[.int .i64 p.c0, .int .i64 p.c1, .int .i64 p.c2, .slice As ns cs, .slice Ai ni ci, .int .i64 p.v, .slice Aa na ca, .bool p.b, .int .i64 ln, .int .i64 21]) ?_ rfl ?_
    · simp [results, Try.results35, go_sem, r0, r1, r2, r3, r4, r5, r6, r7, r8, r9]
    · have hb7 := (HB3.out.setCell (p := ⟨w.heap.size, 9, none⟩) (Nat.le_refl _) (.int .i64 21)).grown g7 (HB3.out.setCell (p := ⟨w.heap.size, 9, none⟩) (Nat.le_refl _) (.int .i64 21)).size (fun b hb => by injection hb with hb; omega)
      refine (HBQ.out _ _).2 ?_
      rw [HE.out]
      exact ⟨hb7, rfl⟩
  have HBE := Lib.hid (show beginP p ws = match fieldsL ws worldF with
    | none => .error 3
    | some (ns, ts) => .ok ⟨true, ns.getD 0 0, ns.getD 1 0, ns.getD 2 0, ts.getD 0 [], ts.getD 1 [], ns.getD 3 0, p.al⟩ by unfold beginP; rw [if_pos (by rw [← HNF.out]; exact hwd)]; rfl)
  have f0 : (fw.toList == [119, 111, 114, 108, 100]) = true := toList_yes hwd
  clear hwd
  go_wp2_with fail
  refine HGF.out.mono ?_
  rintro e w5 ⟨_, _, ok, ns', es, ⟨AN, nN, cN, rfl⟩, ⟨AT, nT, cT, rfl⟩, rfl, hbad, hgood, hb5⟩
  have hs5 : w.heap.size + 2 ≤ w5.heap.size := Nat.le_trans hs3 hb5.size
  have q2 := HQ2.out.below hb5 (by omega)
  have q4 := HQ4.out.below hb5 (by omega)
  have HB5 := Lib.hid (HB3.out.trans (hb5.mono HB3.out.size))
  have hs35 := hb5.size
  clear hb5
  have p2 := q2.alloc (.cells #[.slice AN nN cN, .slice AT nT cT] 92)
  have p4 := q4.alloc (.cells #[.slice AN nN cN, .slice AT nT cT] 92)
  have pf := Block.new w5 92 #[.slice AN nN cN, .slice AT nT cT]
  have HBA := Lib.hid (HB5.out.alloc (by omega) (.cells #[.slice AN nN cN, .slice AT nT cT] 92))
  have HP4 := Lib.hid p4
  have HP2 := Lib.hid p2
  have HPF := Lib.hid pf
  clear q2 q4 p2 p4 pf
  cases ok with
  | false =>
    have HE := Lib.hid (show beginP p ws = .error 3 by rw [HBE.out, hbad rfl])
    clear hbad hgood
    have x0 : (w5.alloc (.cells #[.slice AN nN cN, .slice AT nT cT] 92)).cell? ⟨w.heap.size, 0, none⟩ = some (.int .i64 p.c0) := HP2.out.cell 0
    have x1 : (w5.alloc (.cells #[.slice AN nN cN, .slice AT nT cT] 92)).cell? ⟨w.heap.size, 1, none⟩ = some (.int .i64 p.c1) := HP2.out.cell 1
    have x2 : (w5.alloc (.cells #[.slice AN nN cN, .slice AT nT cT] 92)).cell? ⟨w.heap.size, 2, none⟩ = some (.int .i64 p.c2) := HP2.out.cell 2
    have x3 : (w5.alloc (.cells #[.slice AN nN cN, .slice AT nT cT] 92)).cell? ⟨w.heap.size, 3, none⟩ = some (.slice As ns cs) := HP2.out.cell 3
    have x4 : (w5.alloc (.cells #[.slice AN nN cN, .slice AT nT cT] 92)).cell? ⟨w.heap.size, 4, none⟩ = some (.slice Ai ni ci) := HP2.out.cell 4
    have x5 : (w5.alloc (.cells #[.slice AN nN cN, .slice AT nT cT] 92)).cell? ⟨w.heap.size, 5, none⟩ = some (.int .i64 p.v) := HP2.out.cell 5
    have x6 : (w5.alloc (.cells #[.slice AN nN cN, .slice AT nT cT] 92)).cell? ⟨w.heap.size, 6, none⟩ = some (.slice Aa na ca) := HP2.out.cell 6
    have x7 : (w5.alloc (.cells #[.slice AN nN cN, .slice AT nT cT] 92)).cell? ⟨w.heap.size, 7, none⟩ = some (.bool p.b) := HP2.out.cell 7
    have x8 : (w5.alloc (.cells #[.slice AN nN cN, .slice AT nT cT] 92)).cell? ⟨w.heap.size, 8, none⟩ = some (.int .i64 ln) := HP2.out.cell 8
    have x9 : (w5.alloc (.cells #[.slice AN nN cN, .slice AT nT cT] 92)).cell? ⟨w.heap.size, 9, none⟩ = some (.int .i64 e0) := HP2.out.cell 9
    have xz := fun i => HP2.out.frozen i
    have B4 := HP4.out.far (p := ⟨w.heap.size, 9, none⟩) (by simp) (.int .i64 3)
    go_wp2_with (have _t := B4; refine wpList_store_blk (cs := zS.toArray) rfl _ _ _ rfl (ds := [.int .i64 p.c0, .int .i64 p.c1, .int .i64 p.c2, .slice As ns cs, .slice Ai ni ci, .int .i64 p.v, .slice Aa na ca, .bool p.b, .int .i64 ln, .int .i64 3]) (by exact B4) rfl rfl rfl (by kernel_rfl) (by intro u hu; simp only [List.mem_cons, List.mem_nil_iff, or_false] at hu; rcases hu with rfl | rfl | rfl | rfl | rfl | rfl | rfl | rfl | rfl | rfl <;> rfl) ?_; clear _t; intro w7 X7 g7)
    have r0 : w7.cell? ⟨w.heap.size + 1, 0, none⟩ = some (.int .i64 p.c0) := X7.cell 0
    have r1 : w7.cell? ⟨w.heap.size + 1, 1, none⟩ = some (.int .i64 p.c1) := X7.cell 1
    have r2 : w7.cell? ⟨w.heap.size + 1, 2, none⟩ = some (.int .i64 p.c2) := X7.cell 2
    have r3 : w7.cell? ⟨w.heap.size + 1, 3, none⟩ = some (.slice As ns cs) := X7.cell 3
    have r4 : w7.cell? ⟨w.heap.size + 1, 4, none⟩ = some (.slice Ai ni ci) := X7.cell 4
    have r5 : w7.cell? ⟨w.heap.size + 1, 5, none⟩ = some (.int .i64 p.v) := X7.cell 5
    have r6 : w7.cell? ⟨w.heap.size + 1, 6, none⟩ = some (.slice Aa na ca) := X7.cell 6
    have r7 : w7.cell? ⟨w.heap.size + 1, 7, none⟩ = some (.bool p.b) := X7.cell 7
    have r8 : w7.cell? ⟨w.heap.size + 1, 8, none⟩ = some (.int .i64 ln) := X7.cell 8
    have r9 : w7.cell? ⟨w.heap.size + 1, 9, none⟩ = some (.int .i64 3) := X7.cell 9
    refine bodyPost_ret (v := .agg #[.int .i64 p.c0, .int .i64 p.c1, .int .i64 p.c2, .slice As ns cs, .slice Ai ni ci, .int .i64 p.v, .slice Aa na ca, .bool p.b, .int .i64 ln, .int .i64 3]) ?_ rfl ?_
    · simp [results, Try.results35, go_sem, r0, r1, r2, r3, r4, r5, r6, r7, r8, r9]
    · have hb7 := (HBA.out.setCell (p := ⟨w.heap.size, 9, none⟩) (Nat.le_refl _) (.int .i64 3)).grown g7 (HBA.out.setCell (p := ⟨w.heap.size, 9, none⟩) (Nat.le_refl _) (.int .i64 3)).size (fun b hb => by injection hb with hb; omega)
      refine (HBQ.out _ _).2 ?_
      rw [HE.out]
      exact ⟨hb7, rfl⟩
  | true =>
    obtain ⟨hfl, oN, oT⟩ := hgood rfl
    obtain ⟨a0, a1, a2, a3, t0, t1, rfl, hts⟩ := fields_world hfl
    have HE := Lib.hid (show beginP p ws = .ok ⟨true, a0, a1, a2, t0, t1, a3, p.al⟩ by rw [HBE.out, hfl, hts]; rfl)
    match es, hts, oT with
    | [(u4, y4), (u5, y5)], hts, oT =>
      obtain ⟨rfl, rfl⟩ : y4 = t0 ∧ y5 = t1 := by simpa using hts
      have o4 := (oT.each (u4, y4) (by simp))
      have o5 := (oT.each (u5, y5) (by simp))
      obtain ⟨gN, rfl, hnN, hgN, cN0⟩ := own_cells oN (by simp)
      obtain ⟨AT2, cT2, hvT, _, _⟩ := oT.row.opened
      injection hvT with e1 e2 e3
      subst e1 e2 e3
      obtain ⟨gT, hgT, hgTl, cT0⟩ := oT.row.cellAt (i := 0) (by simp)
      obtain ⟨gT', hgT', _, cT1⟩ := oT.row.cellAt (i := 1) (by simp)
      subst hgT
      obtain rfl : gT = gT' := by injection hgT' with e; injection e with e
      subst hnN
      have n0 := cN0 0 (by simp)
      have n1 := cN0 1 (by simp)
      have n2 := cN0 2 (by simp)
      have n3 := cN0 3 (by simp)
      simp at n0 n1 n2 n3 cT0 cT1
      obtain ⟨A4, n4, c4, rfl⟩ : ∃ A n c, u4 = .slice A n c := by obtain ⟨A, c, h, _⟩ := o4.opened; exact ⟨A, _, c, h⟩
      obtain ⟨A5, n5, c5, rfl⟩ : ∃ A n c, u5 = .slice A n c := by obtain ⟨A, c, h, _⟩ := o5.opened; exact ⟨A, _, c, h⟩
      have hbN := (oN.lt gN rfl).1
      have hbT := (oT.row.lt gT rfl).1
      have HO4 := Lib.hid o4
      have HO5 := Lib.hid o5
      simp only [List.map_cons, List.map_nil, List.length_cons, List.length_nil, Nat.zero_add, Nat.reduceAdd] at HP4 HP2 HPF HBA ⊢
      have hal : Below w5.heap.size w5 (w5.alloc (.cells #[.slice (some ⟨gN, 0, none⟩) 4 cN, .slice (some ⟨gT, 0, none⟩) 2 cT] 92)) := (Below.refl _ _).alloc (Nat.le_refl _) _
      have m0 : (w5.alloc (.cells #[.slice (some ⟨gN, 0, none⟩) 4 cN, .slice (some ⟨gT, 0, none⟩) 2 cT] 92)).cell? ⟨gN, 0, none⟩ = some (.int .i64 a0) := (hal.cell hgN).trans n0
      have m1 : (w5.alloc (.cells #[.slice (some ⟨gN, 0, none⟩) 4 cN, .slice (some ⟨gT, 0, none⟩) 2 cT] 92)).cell? ⟨gN, 1, none⟩ = some (.int .i64 a1) := (hal.cell (p := ⟨gN, 1, none⟩) hgN).trans n1
      have m2 : (w5.alloc (.cells #[.slice (some ⟨gN, 0, none⟩) 4 cN, .slice (some ⟨gT, 0, none⟩) 2 cT] 92)).cell? ⟨gN, 2, none⟩ = some (.int .i64 a2) := (hal.cell (p := ⟨gN, 2, none⟩) hgN).trans n2
      have m3 : (w5.alloc (.cells #[.slice (some ⟨gN, 0, none⟩) 4 cN, .slice (some ⟨gT, 0, none⟩) 2 cT] 92)).cell? ⟨gN, 3, none⟩ = some (.int .i64 a3) := (hal.cell (p := ⟨gN, 3, none⟩) hgN).trans n3
      have mT0 : (w5.alloc (.cells #[.slice (some ⟨gN, 0, none⟩) 4 cN, .slice (some ⟨gT, 0, none⟩) 2 cT] 92)).cell? ⟨gT, 0, none⟩ = some (.slice A4 n4 c4) := (hal.cell (p := ⟨gT, 0, none⟩) hgTl).trans cT0
      have mT1 : (w5.alloc (.cells #[.slice (some ⟨gN, 0, none⟩) 4 cN, .slice (some ⟨gT, 0, none⟩) 2 cT] 92)).cell? ⟨gT, 1, none⟩ = some (.slice A5 n5 c5) := (hal.cell (p := ⟨gT, 1, none⟩) hgTl).trans cT1
      have HM := Lib.hid (And.intro m3 (And.intro mT0 mT1))
      have hw8 : IntKind.i64.wrap 0 = 0 := by decide
      clear n0 n1 n2 n3 cT0 cT1 oN oT o4 o5 hfl hbad hgood hts m3 mT0 mT1 hw8
      have x0 : (w5.alloc (.cells #[.slice (some ⟨gN, 0, none⟩) 4 cN, .slice (some ⟨gT, 0, none⟩) 2 cT] 92)).cell? ⟨w.heap.size, 0, none⟩ = some (.int .i64 p.c0) := HP2.out.cell 0
      have x1 : (w5.alloc (.cells #[.slice (some ⟨gN, 0, none⟩) 4 cN, .slice (some ⟨gT, 0, none⟩) 2 cT] 92)).cell? ⟨w.heap.size, 1, none⟩ = some (.int .i64 p.c1) := HP2.out.cell 1
      have x2 : (w5.alloc (.cells #[.slice (some ⟨gN, 0, none⟩) 4 cN, .slice (some ⟨gT, 0, none⟩) 2 cT] 92)).cell? ⟨w.heap.size, 2, none⟩ = some (.int .i64 p.c2) := HP2.out.cell 2
      have x3 : (w5.alloc (.cells #[.slice (some ⟨gN, 0, none⟩) 4 cN, .slice (some ⟨gT, 0, none⟩) 2 cT] 92)).cell? ⟨w.heap.size, 3, none⟩ = some (.slice As ns cs) := HP2.out.cell 3
      have x4 : (w5.alloc (.cells #[.slice (some ⟨gN, 0, none⟩) 4 cN, .slice (some ⟨gT, 0, none⟩) 2 cT] 92)).cell? ⟨w.heap.size, 4, none⟩ = some (.slice Ai ni ci) := HP2.out.cell 4
      have x5 : (w5.alloc (.cells #[.slice (some ⟨gN, 0, none⟩) 4 cN, .slice (some ⟨gT, 0, none⟩) 2 cT] 92)).cell? ⟨w.heap.size, 5, none⟩ = some (.int .i64 p.v) := HP2.out.cell 5
      have x6 : (w5.alloc (.cells #[.slice (some ⟨gN, 0, none⟩) 4 cN, .slice (some ⟨gT, 0, none⟩) 2 cT] 92)).cell? ⟨w.heap.size, 6, none⟩ = some (.slice Aa na ca) := HP2.out.cell 6
      have x7 : (w5.alloc (.cells #[.slice (some ⟨gN, 0, none⟩) 4 cN, .slice (some ⟨gT, 0, none⟩) 2 cT] 92)).cell? ⟨w.heap.size, 7, none⟩ = some (.bool p.b) := HP2.out.cell 7
      have x8 : (w5.alloc (.cells #[.slice (some ⟨gN, 0, none⟩) 4 cN, .slice (some ⟨gT, 0, none⟩) 2 cT] 92)).cell? ⟨w.heap.size, 8, none⟩ = some (.int .i64 ln) := HP2.out.cell 8
      have x9 : (w5.alloc (.cells #[.slice (some ⟨gN, 0, none⟩) 4 cN, .slice (some ⟨gT, 0, none⟩) 2 cT] 92)).cell? ⟨w.heap.size, 9, none⟩ = some (.int .i64 e0) := HP2.out.cell 9
      have xz := fun i => HP2.out.frozen i
      go_wp2_with fail
      refine wp_region_held_drew (S := (fun W' : World => Block W' w5.heap.size 92 #[.slice (some ⟨gN, 0, none⟩) 4 cN, .slice (some ⟨gT, 0, none⟩) 2 cT] ∧ W'.heap[gN]? = (w5.alloc (.cells #[.slice (some ⟨gN, 0, none⟩) 4 cN, .slice (some ⟨gT, 0, none⟩) 2 cT] 92)).heap[gN]?)) (by kernel_rfl) ⟨HPF.out, rfl⟩ (fun hS => ?_)
      refine wpAnyH_take (i := 0) (oi := ⟨some 25, _, _, _, _, _⟩) (v := .pointer (some ⟨w5.heap.size, 0, none⟩)) rfl (by kernel_rfl) (by kernel_rfl) (by kernel_rfl) (fun _ _ _ h => h) (Or.inl ⟨by rfl, fun W hW => by go_simp⟩) hS ?_
      try simp only [Act.put, List.setIfInBounds_toArray, List.set_cons_zero, List.set_cons_succ]
      refine wpAnyH_take (i := 1) (oi := ⟨some 26, _, _, _, _, _⟩) (v := .slice (some ⟨gN, 0, none⟩) 4 cN) rfl (by kernel_rfl) (by kernel_rfl) (by kernel_rfl) (fun _ _ _ h => h) (Or.inl ⟨by rfl, fun W hW => by have k0 : W.cell? ⟨w5.heap.size, 0, none⟩ = some (.slice (some ⟨gN, 0, none⟩) 4 cN) := hW.1.cell 0; go_simp⟩) hS ?_
      try simp only [Act.put, List.setIfInBounds_toArray, List.set_cons_zero, List.set_cons_succ]
      refine wpAnyH_take (i := 2) (oi := ⟨some 27, _, _, _, _, _⟩) (v := .pointer (some ⟨gN, 0, none⟩)) rfl (by kernel_rfl) (by kernel_rfl) (by kernel_rfl) (fun _ _ _ h => h) (Or.inl ⟨by rfl, fun W hW => by go_simp⟩) hS ?_
      try simp only [Act.put, List.setIfInBounds_toArray, List.set_cons_zero, List.set_cons_succ]
      refine wpAnyH_take (i := 3) (oi := ⟨some 28, _, _, _, _, _⟩) (v := .int .i64 a0) rfl (by kernel_rfl) (by kernel_rfl) (by kernel_rfl) (fun _ _ _ h => h) (Or.inl ⟨by rfl, fun W hW => by have k0 : W.cell? ⟨gN, 0, none⟩ = some (.int .i64 a0) := (World.cell?_of_block (w := (w5.alloc (.cells #[.slice (some ⟨gN, 0, none⟩) 4 cN, .slice (some ⟨gT, 0, none⟩) 2 cT] 92))) hW.2).trans m0; go_simp⟩) hS ?_
      try simp only [Act.put, List.setIfInBounds_toArray, List.set_cons_zero, List.set_cons_succ]
      refine wpAnyH_take (i := 4) (oi := ⟨some 29, _, _, _, _, _⟩) (v := .pointer (some ⟨w5.heap.size, 0, none⟩)) rfl (by kernel_rfl) (by kernel_rfl) (by kernel_rfl) (fun _ _ _ h => h) (Or.inl ⟨by rfl, fun W hW => by go_simp⟩) hS ?_
      try simp only [Act.put, List.setIfInBounds_toArray, List.set_cons_zero, List.set_cons_succ]
      refine wpAnyH_take (i := 5) (oi := ⟨some 30, _, _, _, _, _⟩) (v := .slice (some ⟨gN, 0, none⟩) 4 cN) rfl (by kernel_rfl) (by kernel_rfl) (by kernel_rfl) (fun _ _ _ h => h) (Or.inl ⟨by rfl, fun W hW => by have k0 : W.cell? ⟨w5.heap.size, 0, none⟩ = some (.slice (some ⟨gN, 0, none⟩) 4 cN) := hW.1.cell 0; go_simp⟩) hS ?_
      try simp only [Act.put, List.setIfInBounds_toArray, List.set_cons_zero, List.set_cons_succ]
      refine wpAnyH_take (i := 6) (oi := ⟨some 31, _, _, _, _, _⟩) (v := .pointer (some ⟨gN, 1, none⟩)) rfl (by kernel_rfl) (by kernel_rfl) (by kernel_rfl) (fun _ _ _ h => h) (Or.inl ⟨by rfl, fun W hW => by go_simp⟩) hS ?_
      try simp only [Act.put, List.setIfInBounds_toArray, List.set_cons_zero, List.set_cons_succ]
      refine wpAnyH_take (i := 7) (oi := ⟨some 32, _, _, _, _, _⟩) (v := .int .i64 a1) rfl (by kernel_rfl) (by kernel_rfl) (by kernel_rfl) (fun _ _ _ h => h) (Or.inl ⟨by rfl, fun W hW => by have k0 : W.cell? ⟨gN, 1, none⟩ = some (.int .i64 a1) := (World.cell?_of_block (w := (w5.alloc (.cells #[.slice (some ⟨gN, 0, none⟩) 4 cN, .slice (some ⟨gT, 0, none⟩) 2 cT] 92))) hW.2).trans m1; go_simp⟩) hS ?_
      try simp only [Act.put, List.setIfInBounds_toArray, List.set_cons_zero, List.set_cons_succ]
      refine wpAnyH_take (i := 8) (oi := ⟨some 33, _, _, _, _, _⟩) (v := .pointer (some ⟨w5.heap.size, 0, none⟩)) rfl (by kernel_rfl) (by kernel_rfl) (by kernel_rfl) (fun _ _ _ h => h) (Or.inl ⟨by rfl, fun W hW => by go_simp⟩) hS ?_
      try simp only [Act.put, List.setIfInBounds_toArray, List.set_cons_zero, List.set_cons_succ]
      refine wpAnyH_take (i := 9) (oi := ⟨some 34, _, _, _, _, _⟩) (v := .slice (some ⟨gN, 0, none⟩) 4 cN) rfl (by kernel_rfl) (by kernel_rfl) (by kernel_rfl) (fun _ _ _ h => h) (Or.inl ⟨by rfl, fun W hW => by have k0 : W.cell? ⟨w5.heap.size, 0, none⟩ = some (.slice (some ⟨gN, 0, none⟩) 4 cN) := hW.1.cell 0; go_simp⟩) hS ?_
      try simp only [Act.put, List.setIfInBounds_toArray, List.set_cons_zero, List.set_cons_succ]
      refine wpAnyH_take (i := 10) (oi := ⟨some 35, _, _, _, _, _⟩) (v := .pointer (some ⟨gN, 2, none⟩)) rfl (by kernel_rfl) (by kernel_rfl) (by kernel_rfl) (fun _ _ _ h => h) (Or.inl ⟨by rfl, fun W hW => by go_simp⟩) hS ?_
      try simp only [Act.put, List.setIfInBounds_toArray, List.set_cons_zero, List.set_cons_succ]
      refine wpAnyH_take (i := 11) (oi := ⟨some 36, _, _, _, _, _⟩) (v := .int .i64 a2) rfl (by kernel_rfl) (by kernel_rfl) (by kernel_rfl) (fun _ _ _ h => h) (Or.inl ⟨by rfl, fun W hW => by have k0 : W.cell? ⟨gN, 2, none⟩ = some (.int .i64 a2) := (World.cell?_of_block (w := (w5.alloc (.cells #[.slice (some ⟨gN, 0, none⟩) 4 cN, .slice (some ⟨gT, 0, none⟩) 2 cT] 92))) hW.2).trans m2; go_simp⟩) hS ?_
      try simp only [Act.put, List.setIfInBounds_toArray, List.set_cons_zero, List.set_cons_succ]
      refine wpAnyH_take (i := 12) (oi := ⟨some 37, _, _, _, _, _⟩) (v := .agg #[.int .i64 a0, .int .i64 a1, .int .i64 a2]) rfl (by kernel_rfl) (by kernel_rfl) (by kernel_rfl) (fun _ _ _ h => h) (Or.inl ⟨by rfl, fun W hW => by go_simp⟩) hS ?_
      try simp only [Act.put, List.setIfInBounds_toArray, List.set_cons_zero, List.set_cons_succ]
      refine wpAnyH_take (i := 13) (oi := ⟨some 38, _, _, _, _, _⟩) (v := .pointer (some ⟨w.heap.size, 0, none⟩)) rfl (by kernel_rfl) (by kernel_rfl) (by kernel_rfl) (fun _ _ _ h => h) (Or.inl ⟨by rfl, fun W hW => by go_simp⟩) hS ?_
      try simp only [Act.put, List.setIfInBounds_toArray, List.set_cons_zero, List.set_cons_succ]
      have bb := ((HPF.out.far (p := ⟨w.heap.size, 0, none⟩) (by simp; omega) (.int .i64 a0)).far (p := ⟨w.heap.size, 1, none⟩) (by simp; omega) (.int .i64 a1)).far (p := ⟨w.heap.size, 2, none⟩) (by simp; omega) (.int .i64 a2)
      have hh : ((((w5.alloc (.cells #[.slice (some ⟨gN, 0, none⟩) 4 cN, .slice (some ⟨gT, 0, none⟩) 2 cT] 92)).setCell ⟨w.heap.size, 0, none⟩ (.int .i64 a0)).setCell ⟨w.heap.size, 1, none⟩ (.int .i64 a1)).setCell ⟨w.heap.size, 2, none⟩ (.int .i64 a2)).heap[gN]? = (w5.alloc (.cells #[.slice (some ⟨gN, 0, none⟩) 4 cN, .slice (some ⟨gT, 0, none⟩) 2 cT] 92)).heap[gN]? := ((Below.heap_setCell _ _ _ gN (by show gN ≠ w.heap.size; omega)).trans (Below.heap_setCell _ _ _ gN (by show gN ≠ w.heap.size; omega))).trans (Below.heap_setCell _ _ _ gN (by show gN ≠ w.heap.size; omega))
      refine wpAnyH_ready (rs := [14]) (by kernel_rfl) (by simp) ?_
      refine AllReadyH.cons rfl (fun K hK => ?_) AllReadyH.nil
      go_simp
      refine hK.out _ _ (by exact ⟨bb.drewN 1, hh⟩) (fun hS => ?_)
      clear hK K
      try simp only [Act.put, List.setIfInBounds_toArray, List.set_cons_zero, List.set_cons_succ]
      refine wpAnyH_done (by kernel_rfl) ?_ _
      obtain ⟨W7, hW7⟩ : ∃ W7, World.drew ((((w5.alloc (.cells #[.slice (some ⟨gN, 0, none⟩) 4 cN, .slice (some ⟨gT, 0, none⟩) 2 cT] 92)).setCell ⟨w.heap.size, 0, none⟩ (.int .i64 a0)).setCell ⟨w.heap.size, 1, none⟩ (.int .i64 a1)).setCell ⟨w.heap.size, 2, none⟩ (.int .i64 a2)) = W7 := ⟨_, rfl⟩
      have b2 : Block W7 w.heap.size 36 #[.int .i64 a0, .int .i64 a1, .int .i64 a2, .slice As ns cs, .slice Ai ni ci, .int .i64 p.v, .slice Aa na ca, .bool p.b, .int .i64 ln, .int .i64 e0] := by rw [← hW7]; exact (((HP2.out.set_ 0 (.int .i64 a0)).set_ 1 (.int .i64 a1)).set_ 2 (.int .i64 a2)).drewN 1
      have b4 : Block W7 (w.heap.size + 1) 36 zS.toArray := by rw [← hW7]; exact (((HP4.out.far (p := ⟨w.heap.size, 0, none⟩) (by simp) (.int .i64 a0)).far (p := ⟨w.heap.size, 1, none⟩) (by simp) (.int .i64 a1)).far (p := ⟨w.heap.size, 2, none⟩) (by simp) (.int .i64 a2)).drewN 1
      have bF : Block W7 w5.heap.size 92 #[.slice (some ⟨gN, 0, none⟩) 4 cN, .slice (some ⟨gT, 0, none⟩) 2 cT] := by rw [← hW7]; exact (((HPF.out.far (p := ⟨w.heap.size, 0, none⟩) (by simp; omega) (.int .i64 a0)).far (p := ⟨w.heap.size, 1, none⟩) (by simp; omega) (.int .i64 a1)).far (p := ⟨w.heap.size, 2, none⟩) (by simp; omega) (.int .i64 a2)).drewN 1
      have t7 : TurnsIn (fun x => x = w.heap.size) (w5.alloc (.cells #[.slice (some ⟨gN, 0, none⟩) 4 cN, .slice (some ⟨gT, 0, none⟩) 2 cT] 92)) W7 := by rw [← hW7]; exact ((((TurnsIn.refl (fun x => x = w.heap.size) (w5.alloc (.cells #[.slice (some ⟨gN, 0, none⟩) 4 cN, .slice (some ⟨gT, 0, none⟩) 2 cT] 92))).setCell (p := ⟨w.heap.size, 0, none⟩) (.inl rfl) (.int .i64 a0)).setCell (p := ⟨w.heap.size, 1, none⟩) (.inl rfl) (.int .i64 a1)).setCell (p := ⟨w.heap.size, 2, none⟩) (.inl rfl) (.int .i64 a2)).drewN 1
      rw [hW7]
      have hs6 : (w5.alloc (.cells #[.slice (some ⟨gN, 0, none⟩) 4 cN, .slice (some ⟨gT, 0, none⟩) 2 cT] 92)).heap.size = w5.heap.size + 1 := World.size_alloc _ _
      have kk : ∀ (g i : Nat), g ≠ w.heap.size → g < w5.heap.size → W7.cell? ⟨g, i, none⟩ = (w5.alloc (.cells #[.slice (some ⟨gN, 0, none⟩) 4 cN, .slice (some ⟨gT, 0, none⟩) 2 cT] 92)).cell? ⟨g, i, none⟩ := fun g i h1 h2 => World.cell?_of_block (w := (w5.alloc (.cells #[.slice (some ⟨gN, 0, none⟩) 4 cN, .slice (some ⟨gT, 0, none⟩) 2 cT] 92))) (t7.block g (by omega) h1)
      have k3 := (kk gN 3 (by omega) hgN).trans HM.out.1
      have kT0 : ∀ x, (W7.setCell ⟨w.heap.size, 5, none⟩ x).cell? ⟨gT, 0, none⟩ = some (.slice A4 n4 c4) := fun x => (World.cell?_of_block (w := W7) (Below.heap_setCell W7 _ x gT (by show gT ≠ w.heap.size; omega))).trans ((kk gT 0 (by omega) hgTl).trans HM.out.2.1)
      have kT1 : ∀ x y, ((W7.setCell ⟨w.heap.size, 5, none⟩ x).setCell ⟨w.heap.size, 3, none⟩ y).cell? ⟨gT, 1, none⟩ = some (.slice A5 n5 c5) := fun x y => (World.cell?_of_block (w := W7) ((Below.heap_setCell _ _ y gT (by show gT ≠ w.heap.size; omega)).trans (Below.heap_setCell W7 _ x gT (by show gT ≠ w.heap.size; omega)))).trans ((kk gT 1 (by omega) hgTl).trans HM.out.2.2)
      have F0 : W7.cell? ⟨w5.heap.size, 0, none⟩ = some (.slice (some ⟨gN, 0, none⟩) 4 cN) := bF.cell 0
      have F1 : ∀ x, (W7.setCell ⟨w.heap.size, 5, none⟩ x).cell? ⟨w5.heap.size, 1, none⟩ = some (.slice (some ⟨gT, 0, none⟩) 2 cT) := fun x => (bF.far (p := ⟨w.heap.size, 5, none⟩) (by simp; omega) x).cell 1
      have F2 : ∀ x y, ((W7.setCell ⟨w.heap.size, 5, none⟩ x).setCell ⟨w.heap.size, 3, none⟩ y).cell? ⟨w5.heap.size, 1, none⟩ = some (.slice (some ⟨gT, 0, none⟩) 2 cT) := fun x y => ((bF.far (p := ⟨w.heap.size, 5, none⟩) (by simp; omega) x).far (p := ⟨w.heap.size, 3, none⟩) (by simp; omega) y).cell 1
      have z0 : W7.cell? ⟨w.heap.size, 0, none⟩ = some (.int .i64 a0) := b2.cell 0
      have z1 : W7.cell? ⟨w.heap.size, 1, none⟩ = some (.int .i64 a1) := b2.cell 1
      have z2 : W7.cell? ⟨w.heap.size, 2, none⟩ = some (.int .i64 a2) := b2.cell 2
      have z3 : W7.cell? ⟨w.heap.size, 3, none⟩ = some (.slice As ns cs) := b2.cell 3
      have z4 : W7.cell? ⟨w.heap.size, 4, none⟩ = some (.slice Ai ni ci) := b2.cell 4
      have z5 : W7.cell? ⟨w.heap.size, 5, none⟩ = some (.int .i64 p.v) := b2.cell 5
      have z6 : W7.cell? ⟨w.heap.size, 6, none⟩ = some (.slice Aa na ca) := b2.cell 6
      have z7 : W7.cell? ⟨w.heap.size, 7, none⟩ = some (.bool p.b) := b2.cell 7
      have z8 : W7.cell? ⟨w.heap.size, 8, none⟩ = some (.int .i64 ln) := b2.cell 8
      have z9 : W7.cell? ⟨w.heap.size, 9, none⟩ = some (.int .i64 e0) := b2.cell 9
      have zz := fun i => b2.frozen i
      have b9 := ((((b2.set_ 5 (.int .i64 a3)).set_ 3 (.slice A4 n4 c4)).set_ 4 (.slice A5 n5 c5)).set_ 7 (.bool true))
      have B4 := (((b4.far (p := ⟨w.heap.size, 5, none⟩) (by simp) (.int .i64 a3)).far (p := ⟨w.heap.size, 3, none⟩) (by simp) (.slice A4 n4 c4)).far (p := ⟨w.heap.size, 4, none⟩) (by simp) (.slice A5 n5 c5)).far (p := ⟨w.heap.size, 7, none⟩) (by simp) (.bool true)
      have hb7 : Below w.heap.size w W7 := HBA.out.trans (t7.toBelow HBA.out.size (fun y hy h => by omega))
      have t9 := ((((t7.setCell (p := ⟨w.heap.size, 5, none⟩) (.inl rfl) (.int .i64 a3)).setCell (p := ⟨w.heap.size, 3, none⟩) (.inl rfl) (.slice A4 n4 c4)).setCell (p := ⟨w.heap.size, 4, none⟩) (.inl rfl) (.slice A5 n5 c5)).setCell (p := ⟨w.heap.size, 7, none⟩) (.inl rfl) (.bool true))
      have HT9 := Lib.hid t9
      have HB7 := Lib.hid hb7
      have HB9 := Lib.hid B4
      clear b2 b4 bF t7 kk hs6 hal m0 m1 m2 t9 hb7 b9 x0 x1 x2 x3 x4 x5 x6 x7 x8 x9 xz
      go_upto_region 14 with (fail)
      go_wp2_with (have _t := HB9.out; refine wpList_store_blk (cs := zS.toArray) rfl _ _ _ rfl (ds := [.int .i64 a0, .int .i64 a1, .int .i64 a2, .slice A4 n4 c4, .slice A5 n5 c5, .int .i64 a3, .slice Aa na ca, .bool true, .int .i64 ln, .int .i64 e0]) (by exact HB9.out) rfl rfl rfl (by kernel_rfl) (by intro u hu; simp only [List.mem_cons, List.mem_nil_iff, or_false] at hu; rcases hu with rfl | rfl | rfl | rfl | rfl | rfl | rfl | rfl | rfl | rfl <;> rfl) ?_; clear _t; intro w7 X7 g7)
      have r0 : w7.cell? ⟨w.heap.size + 1, 0, none⟩ = some (.int .i64 a0) := X7.cell 0
      have r1 : w7.cell? ⟨w.heap.size + 1, 1, none⟩ = some (.int .i64 a1) := X7.cell 1
      have r2 : w7.cell? ⟨w.heap.size + 1, 2, none⟩ = some (.int .i64 a2) := X7.cell 2
      have r3 : w7.cell? ⟨w.heap.size + 1, 3, none⟩ = some (.slice A4 n4 c4) := X7.cell 3
      have r4 : w7.cell? ⟨w.heap.size + 1, 4, none⟩ = some (.slice A5 n5 c5) := X7.cell 4
      have r5 : w7.cell? ⟨w.heap.size + 1, 5, none⟩ = some (.int .i64 a3) := X7.cell 5
      have r6 : w7.cell? ⟨w.heap.size + 1, 6, none⟩ = some (.slice Aa na ca) := X7.cell 6
      have r7 : w7.cell? ⟨w.heap.size + 1, 7, none⟩ = some (.bool true) := X7.cell 7
      have r8 : w7.cell? ⟨w.heap.size + 1, 8, none⟩ = some (.int .i64 ln) := X7.cell 8
      have r9 : w7.cell? ⟨w.heap.size + 1, 9, none⟩ = some (.int .i64 e0) := X7.cell 9
      refine bodyPost_ret (v := .agg #[.int .i64 a0, .int .i64 a1, .int .i64 a2, .slice A4 n4 c4, .slice A5 n5 c5, .int .i64 a3, .slice Aa na ca, .bool true, .int .i64 ln, .int .i64 e0]) ?_ rfl ?_
      · simp [results, Try.results35, go_sem, r0, r1, r2, r3, r4, r5, r6, r7, r8, r9]
      · have hb7 := (((((HB7.out.setCell (p := ⟨w.heap.size, 5, none⟩) (Nat.le_refl _) (.int .i64 a3)).setCell (p := ⟨w.heap.size, 3, none⟩) (Nat.le_refl _) (.slice A4 n4 c4)).setCell (p := ⟨w.heap.size, 4, none⟩) (Nat.le_refl _) (.slice A5 n5 c5)).setCell (p := ⟨w.heap.size, 7, none⟩) (Nat.le_refl _) (.bool true))).grown g7 (((((HB7.out.setCell (p := ⟨w.heap.size, 5, none⟩) (Nat.le_refl _) (.int .i64 a3)).setCell (p := ⟨w.heap.size, 3, none⟩) (Nat.le_refl _) (.slice A4 n4 c4)).setCell (p := ⟨w.heap.size, 4, none⟩) (Nat.le_refl _) (.slice A5 n5 c5)).setCell (p := ⟨w.heap.size, 7, none⟩) (Nat.le_refl _) (.bool true))).size (fun b hb => by injection hb with hb; omega)
        refine (HBQ.out _ _).2 ?_
        rw [HE.out]
        have key : ∀ (v : Value) (xs : List Int), Own w5 w3.heap.size 5 .u8 v xs → Own w7 w.heap.size 5 .u8 v xs := fun v xs ho => (((ho.alloc _).out HT9.out (fun x hx he => by have := (ho.lt x hx).1; omega)).out (TurnsIn.ofGrown (S := fun x => x = w.heap.size + 1) g7 (fun b hb => by injection hb with hb; exact hb.symm)) (fun x hx he => by have := (ho.lt x hx).1; omega)).mono (by omega)
        exact ⟨hb7, A4, n4, c4, A5, n5, c5, rfl, key _ _ HO4.out, key _ _ HO5.out⟩
end Go.Proofs.Ytngeemfcmoahoaa.Tv

namespace Go.Proofs.Ytngeemfcmoahoaa.Tv
open Go.ChangeShapes Go.WideShapes Go.ChangeAt Go.RowKit Go.Proofs.Ytngeemfcmoahoaa.Kit Go.Proofs.Ytngeemfcmoahoaa.Tx Go.Proofs.Ytngeemfcmoahoaa.Ty Go.Proofs.Ytngeemfcmoahoaa.Tz

/-- The rows of what was read by now. -/
structure SRows (w : World) (B : Nat) (p : PS) (vs vi va : Value) (es : List (ActV × Value)) : Prop where
  os : Own w B 5 .u8 vs p.sd
  oi : Own w B 5 .u8 vi p.im
  oa : OwnE w B va es
  al : es.map Prod.fst = p.al
  ds : ∀ x ∈ es, Own w B 5 .u8 x.2 x.1.d
theorem SRows.out {S : Nat → Prop} {w w' : World} {B : Nat} {p : PS} {vs vi va : Value} {es : List (ActV × Value)} (h : SRows w B p vs vi va es) (t : TurnsIn S w w') (hS : ∀ x, S x → x < B ∨ w.heap.size ≤ x) : SRows w' B p vs vi va es :=
  ⟨h.os.out t (fun x hx hs => by have := h.os.lt x hx; have := hS x hs; omega), h.oi.out t (fun x hx hs => by have := h.oi.lt x hx; have := hS x hs; omega), h.oa.out t (fun x hx hs => by have := h.oa.lt x hx; have := hS x hs; omega), h.al, fun y hy => (h.ds y hy).out t (fun x hx hs => by have := (h.ds y hy).lt x hx; have := hS x hs; omega)⟩
theorem SRows.far {w w' : World} {B q : Nat} {T : TypeId} {cs : Array Value} {p : PS} {vs vi va : Value} {es : List (ActV × Value)} (h : SRows w B p vs vi va es) (hq : Block w q T cs) (t : TurnsIn (fun b => b = q) w w') (hT : T ≠ 40 ∧ T ≠ 5 := by decide) : SRows w' B p vs vi va es :=
  ⟨h.os.out t (fun x hx e => h.os.ne_block hq (Ne.symm hT.2) (by rw [hx, e])), h.oi.out t (fun x hx e => h.oi.ne_block hq (Ne.symm hT.2) (by rw [hx, e])), h.oa.out t (fun x hx e => h.oa.ne_block hq (Ne.symm hT.1) (by rw [hx, e])), h.al, fun y hy => (h.ds y hy).out t (fun x hx e => (h.ds y hy).ne_block hq (Ne.symm hT.2) (by rw [hx, e]))⟩
theorem SRows.add {w5 w6 : World} {B : Nat} {p : PS} {vs vi va v6 u : Value} {es : List (ActV × Value)} {a : ActV} (h : SRows w5 B p vs vi va es) (ou : Own w5 B 5 .u8 u a.d) (t6 : TurnsIn (fun b => va.ownBlock = some b) w5 w6) (O6 : OwnE w6 B v6 (es ++ [(a, u)])) :
    SRows w6 B { p with al := p.al ++ [a] } vs vi v6 (es ++ [(a, u)]) := by
  have keep : ∀ (o : Value) (xs : List Int), Own w5 B 5 .u8 o xs → Own w6 B 5 .u8 o xs := fun o xs ho => ho.out t6 (fun x hx he => by
      obtain ⟨cs, hc⟩ := own_block ho hx
      obtain ⟨ds, hd⟩ := h.oa.block he
      exact absurd (block_type hc hd) (by decide))
  refine ⟨keep _ _ h.os, keep _ _ h.oi, O6, ?_, fun x hx => ?_⟩
  · rw [List.map_append, h.al]; rfl
  · rcases List.mem_append.1 hx with hx | hx
    · exact keep _ _ (h.ds x hx)
    · obtain rfl : x = (a, u) := by simpa using hx
      exact keep _ _ ou
theorem wpList_append_act {w : World} {B : Nat} {v : Value} {es : List (ActV × Value)} {ops : Array Oper} {rest : List Oper} {o : Oper} {a : Act} {Q : Exit → Act → World → Prop} (hgd : o.guard = none) (s x : Operand)
    (ho : o.op = Op.call { callee := Callee.builtin Builtin.append, args := #[s, x], argTypes := #[31, 31] })
    (q : ActV) (A : Option Addr) (n m : Nat) (hown : OwnE w B v es) (hs : a.eval s = v) {c : Nat} (hx : a.eval x = .slice (some ⟨w.heap.size, 0, none⟩) 1 c) (hsz : es.length ≤ 1000000) (hbase : B ≤ w.heap.size)
    (hK : ∀ A' c' w', OwnE w' B (.slice A' (es.length + 1) c') (es ++ [(q, .slice A n m)]) → TurnsIn (fun b => v.ownBlock = some b) w w' → wpList Try.prog ops Q rest (a.put o.dst (.slice A' (es.length + 1) c')) w') :
    wpList Try.prog ops Q (o :: rest) a (w.alloc (.cells #[.int .u8 q.k, .int .u8 q.m, .int .i64 q.p, .int .i64 q.n, .int .u64 q.v, .slice A n m] 40)) := by
  refine wpList_plain hgd fun K hK2 => ?_
  obtain ⟨A', c', w', hrun, h2, h3, _⟩ := run_append_act hown q A n m c hsz hbase o.type
  have hrun' : (Builtin.append_ #[31, 31] o.type #[v, .slice (some ⟨w.heap.size, 0, none⟩) 1 c]).run Try.prog (w.alloc (.cells #[.int .u8 q.k, .int .u8 q.m, .int .i64 q.p, .int .i64 q.n, .int .u64 q.v, .slice A n m] 40)) = .ok (.slice A' (es.length + 1) c') w' := hrun
  unfold Oper.wp
  simp only [execOp, ho, resolve, invoke, builtin, Sem.run_bind, Sem.run_pure, Result.andThen_ok, List.map_toArray, List.map_cons, List.map_nil, hs, hx, hrun']
  exact hK2 _ _ (hK _ _ _ h2 h3)
def OneQ (B : Nat) (p : PS) (vs vi va : Value) (ln e0 : Int) (t : List Int) (w : World) (e : Ending) (w' : World) : Prop :=
  TurnsIn (fun x => va.ownBlock = some x) w w' ∧ match lineL p t with
  | .error k => ∃ As ns cs Ai ni ci Aa na ca, e = .returned (.agg (sC p (.slice As ns cs) (.slice Ai ni ci) (.slice Aa na ca) (ln + 1) k).toArray)
  | .ok q => ∃ As ns cs Ai ni ci Aa na ca es, e = .returned (.agg (sC q (.slice As ns cs) (.slice Ai ni ci) (.slice Aa na ca) (ln + 1) e0).toArray) ∧ SRows w' B q (.slice As ns cs) (.slice Ai ni ci) (.slice Aa na ca) es

set_option maxRecDepth 100000 in
set_option maxHeartbeats 12800000 in
theorem rone_any (B : Nat) (p : PS) (As Ai Aa : Option Addr) (ns cs ni ci na ca : Nat) (es : List (ActV × Value)) (ln e0 : Int) (s : ByteArray) (w : World) (hs : s.size ≤ 100000) (hln : 0 ≤ ln ∧ ln ≤ 1000000) (hes : es.length ≤ 1000000) (hB : B ≤ w.heap.size) (hR : SRows w B p (.slice As ns cs) (.slice Ai ni ci) (.slice Aa na ca) es) :
    Calls Try.prog 21 #[.agg (sC p (.slice As ns cs) (.slice Ai ni ci) (.slice Aa na ca) ln e0).toArray, .string s] w (OneQ B p (.slice As ns cs) (.slice Ai ni ci) (.slice Aa na ca) ln e0 (numsOf s) w) := by
  obtain ⟨W1, hW1⟩ : ∃ W1, ((w.alloc (.cells (sC p (.slice As ns cs) (.slice Ai ni ci) (.slice Aa na ca) (ln + 1) e0).toArray 36)).alloc (.cells zS.toArray 36)) = W1 := ⟨_, rfl⟩
  have t1 : TurnsIn (fun x => (Value.slice Aa na ca).ownBlock = some x) w W1 := by rw [← hW1]; exact ((TurnsIn.refl _ w).alloc _).alloc _
  have t1' : TurnsIn (fun _ => False) w W1 := by rw [← hW1]; exact ((TurnsIn.refl _ w).alloc _).alloc _
  have k2 : Block W1 w.heap.size 36 (sC p (.slice As ns cs) (.slice Ai ni ci) (.slice Aa na ca) (ln + 1) e0).toArray := by rw [← hW1]; exact (Block.new w _ _).alloc _
  have k4 : Block W1 (w.heap.size + 1) 36 zS.toArray := by
    rw [← hW1]
    have := Block.new (w.alloc (.cells (sC p (.slice As ns cs) (.slice Ai ni ci) (.slice Aa na ca) (ln + 1) e0).toArray 36)) 36 zS.toArray
    rwa [World.size_alloc] at this
  have s1 : W1.heap.size = w.heap.size + 2 := by rw [← hW1]; simp
  have hR1 := hR.out t1' (fun _ h => h.elim)
  have hq : IntKind.i64.wrap (ln + 1) = ln + 1 := by rw [IntKind.wrap_i64]; omega
  have HW1 := Lib.hid hW1
  have T1 := Lib.hid t1
  have HK2 := Lib.hid k2
  have HK4 := Lib.hid k4
  have S1 := Lib.hid s1
  have R1 := Lib.hid hR1
  clear hW1 t1 t1' k2 k4 s1 hR1 hR
  by_cases h0 : s.size = 0
  · obtain rfl := str_nil h0
    have HE := Lib.hid (show lineL p (numsOf ⟨#[]⟩) = .ok p by unfold lineL; rw [if_pos (.inl rfl)])
    have s0 : ((⟨#[]⟩ : ByteArray).toList == []) = true := by rw [ByteArray.toList_eq]; rfl
    clear h0
    unfold sC
    go_enter Try.func21, Try.ntmps21
    go_upto_region 2 with (fail)
    have hx1 := HW1.out
    unfold sC zS at hx1
    rw [hx1]
    clear hx1
    have x0 : W1.cell? ⟨w.heap.size, 0, none⟩ = some (.int .i64 p.c0) := HK2.out.cell 0
    have x1 : W1.cell? ⟨w.heap.size, 1, none⟩ = some (.int .i64 p.c1) := HK2.out.cell 1
    have x2 : W1.cell? ⟨w.heap.size, 2, none⟩ = some (.int .i64 p.c2) := HK2.out.cell 2
    have x3 : W1.cell? ⟨w.heap.size, 3, none⟩ = some (.slice As ns cs) := HK2.out.cell 3
    have x4 : W1.cell? ⟨w.heap.size, 4, none⟩ = some (.slice Ai ni ci) := HK2.out.cell 4
    have x5 : W1.cell? ⟨w.heap.size, 5, none⟩ = some (.int .i64 p.v) := HK2.out.cell 5
    have x6 : W1.cell? ⟨w.heap.size, 6, none⟩ = some (.slice Aa na ca) := HK2.out.cell 6
    have x7 : W1.cell? ⟨w.heap.size, 7, none⟩ = some (.bool p.b) := HK2.out.cell 7
    have x8 : W1.cell? ⟨w.heap.size, 8, none⟩ = some (.int .i64 (ln + 1)) := HK2.out.cell 8
    have x9 : W1.cell? ⟨w.heap.size, 9, none⟩ = some (.int .i64 e0) := HK2.out.cell 9
    have xz := fun i => HK2.out.frozen i
    clear xz
    go_wp2_with (have _t := HK4.out; refine wpList_store_blk (cs := zS.toArray) rfl _ _ _ rfl (ds := [.int .i64 p.c0, .int .i64 p.c1, .int .i64 p.c2, .slice As ns cs, .slice Ai ni ci, .int .i64 p.v, .slice Aa na ca, .bool p.b, .int .i64 (ln + 1), .int .i64 e0]) (by exact HK4.out) rfl rfl rfl (by kernel_rfl) (by intro u hu; simp only [List.mem_cons, List.mem_nil_iff, or_false] at hu; rcases hu with rfl | rfl | rfl | rfl | rfl | rfl | rfl | rfl | rfl | rfl <;> rfl) ?_; clear _t; intro w7 X7 g7)
    have r0 : w7.cell? ⟨w.heap.size + 1, 0, none⟩ = some (.int .i64 p.c0) := X7.cell 0
    have r1 : w7.cell? ⟨w.heap.size + 1, 1, none⟩ = some (.int .i64 p.c1) := X7.cell 1
    have r2 : w7.cell? ⟨w.heap.size + 1, 2, none⟩ = some (.int .i64 p.c2) := X7.cell 2
    have r3 : w7.cell? ⟨w.heap.size + 1, 3, none⟩ = some (.slice As ns cs) := X7.cell 3
    have r4 : w7.cell? ⟨w.heap.size + 1, 4, none⟩ = some (.slice Ai ni ci) := X7.cell 4
    have r5 : w7.cell? ⟨w.heap.size + 1, 5, none⟩ = some (.int .i64 p.v) := X7.cell 5
    have r6 : w7.cell? ⟨w.heap.size + 1, 6, none⟩ = some (.slice Aa na ca) := X7.cell 6
    have r7 : w7.cell? ⟨w.heap.size + 1, 7, none⟩ = some (.bool p.b) := X7.cell 7
    have r8 : w7.cell? ⟨w.heap.size + 1, 8, none⟩ = some (.int .i64 (ln + 1)) := X7.cell 8
    have r9 : w7.cell? ⟨w.heap.size + 1, 9, none⟩ = some (.int .i64 e0) := X7.cell 9
    refine bodyPost_ret (v := .agg #[.int .i64 p.c0, .int .i64 p.c1, .int .i64 p.c2, .slice As ns cs, .slice Ai ni ci, .int .i64 p.v, .slice Aa na ca, .bool p.b, .int .i64 (ln + 1), .int .i64 e0]) ?_ rfl ?_
    · simp [results, Try.results21, go_sem, r0, r1, r2, r3, r4, r5, r6, r7, r8, r9]
    · have tg := TurnsIn.ofGrown (S := fun x => x = w.heap.size + 1) g7 (fun b hb => by injection hb with hb; exact hb.symm)
      have t7 := (T1.out).then_ tg (by omega)
      unfold OneQ
      rw [HE.out]
      exact ⟨t7, As, ns, cs, Ai, ni, ci, Aa, na, ca, es, rfl, R1.out.far HK4.out tg⟩
  obtain ⟨e0', e1⟩ := str_ne h0
  have hsz : 0 < s.size := by omega
  have hne : numsOf s ≠ [] := by intro h; have := numsOf_length s; rw [h] at this; simp at this; omega
  have hc0 := numsOf_get s 0 hsz
  by_cases h35 : s[0].toNat = 35
  · have HE := Lib.hid (show lineL p (numsOf s) = .ok p by unfold lineL; rw [if_pos (.inr (by rw [hc0, h35]; rfl))])
    have d4 : (((s[0].toNat : Nat) : Int) == 35) = true := by rw [beq_iff_eq]; omega
    clear h0 hne hc0 h35
    unfold sC
    go_enter Try.func21, Try.ntmps21
    go_upto_region 2 with (fail)
    have hx1 := HW1.out
    unfold sC zS at hx1
    rw [hx1]
    clear hx1
    have x0 : W1.cell? ⟨w.heap.size, 0, none⟩ = some (.int .i64 p.c0) := HK2.out.cell 0
    have x1 : W1.cell? ⟨w.heap.size, 1, none⟩ = some (.int .i64 p.c1) := HK2.out.cell 1
    have x2 : W1.cell? ⟨w.heap.size, 2, none⟩ = some (.int .i64 p.c2) := HK2.out.cell 2
    have x3 : W1.cell? ⟨w.heap.size, 3, none⟩ = some (.slice As ns cs) := HK2.out.cell 3
    have x4 : W1.cell? ⟨w.heap.size, 4, none⟩ = some (.slice Ai ni ci) := HK2.out.cell 4
    have x5 : W1.cell? ⟨w.heap.size, 5, none⟩ = some (.int .i64 p.v) := HK2.out.cell 5
    have x6 : W1.cell? ⟨w.heap.size, 6, none⟩ = some (.slice Aa na ca) := HK2.out.cell 6
    have x7 : W1.cell? ⟨w.heap.size, 7, none⟩ = some (.bool p.b) := HK2.out.cell 7
    have x8 : W1.cell? ⟨w.heap.size, 8, none⟩ = some (.int .i64 (ln + 1)) := HK2.out.cell 8
    have x9 : W1.cell? ⟨w.heap.size, 9, none⟩ = some (.int .i64 e0) := HK2.out.cell 9
    have xz := fun i => HK2.out.frozen i
    clear xz
    go_wp2_with (have _t := HK4.out; refine wpList_store_blk (cs := zS.toArray) rfl _ _ _ rfl (ds := [.int .i64 p.c0, .int .i64 p.c1, .int .i64 p.c2, .slice As ns cs, .slice Ai ni ci, .int .i64 p.v, .slice Aa na ca, .bool p.b, .int .i64 (ln + 1), .int .i64 e0]) (by exact HK4.out) rfl rfl rfl (by kernel_rfl) (by intro u hu; simp only [List.mem_cons, List.mem_nil_iff, or_false] at hu; rcases hu with rfl | rfl | rfl | rfl | rfl | rfl | rfl | rfl | rfl | rfl <;> rfl) ?_; clear _t; intro w7 X7 g7)
    have r0 : w7.cell? ⟨w.heap.size + 1, 0, none⟩ = some (.int .i64 p.c0) := X7.cell 0
    have r1 : w7.cell? ⟨w.heap.size + 1, 1, none⟩ = some (.int .i64 p.c1) := X7.cell 1
    have r2 : w7.cell? ⟨w.heap.size + 1, 2, none⟩ = some (.int .i64 p.c2) := X7.cell 2
    have r3 : w7.cell? ⟨w.heap.size + 1, 3, none⟩ = some (.slice As ns cs) := X7.cell 3
    have r4 : w7.cell? ⟨w.heap.size + 1, 4, none⟩ = some (.slice Ai ni ci) := X7.cell 4
    have r5 : w7.cell? ⟨w.heap.size + 1, 5, none⟩ = some (.int .i64 p.v) := X7.cell 5
    have r6 : w7.cell? ⟨w.heap.size + 1, 6, none⟩ = some (.slice Aa na ca) := X7.cell 6
    have r7 : w7.cell? ⟨w.heap.size + 1, 7, none⟩ = some (.bool p.b) := X7.cell 7
    have r8 : w7.cell? ⟨w.heap.size + 1, 8, none⟩ = some (.int .i64 (ln + 1)) := X7.cell 8
    have r9 : w7.cell? ⟨w.heap.size + 1, 9, none⟩ = some (.int .i64 e0) := X7.cell 9
    refine bodyPost_ret (v := .agg #[.int .i64 p.c0, .int .i64 p.c1, .int .i64 p.c2, .slice As ns cs, .slice Ai ni ci, .int .i64 p.v, .slice Aa na ca, .bool p.b, .int .i64 (ln + 1), .int .i64 e0]) ?_ rfl ?_
    · simp [results, Try.results21, go_sem, r0, r1, r2, r3, r4, r5, r6, r7, r8, r9]
    · have tg := TurnsIn.ofGrown (S := fun x => x = w.heap.size + 1) g7 (fun b hb => by injection hb with hb; exact hb.symm)
      have t7 := (T1.out).then_ tg (by omega)
      unfold OneQ
      rw [HE.out]
      exact ⟨t7, As, ns, cs, Ai, ni, ci, Aa, na, ca, es, rfl, R1.out.far HK4.out tg⟩
  have d4 : (((s[0].toNat : Nat) : Int) == 35) = false := by rw [beq_eq_false_iff_ne]; omega
  have HLR := Lib.hid (show lineL p (numsOf s) = if p.b = false then beginP p (wordsL (numsOf s)) else match actL (numsOf s) with
      | .error e => .error e
      | .ok a => .ok { p with al := p.al ++ [a] } by
    unfold lineL
    rw [if_neg (fun h => h.elim hne (fun h => h35 (by rw [hc0] at h; omega)))]
    rfl)
  clear h0 hne hc0 h35
  by_cases hb : p.b = false
  · have HLB := Lib.hid (show lineL p (numsOf s) = beginP p (wordsL (numsOf s)) by rw [HLR.out, if_pos hb])
    have GB := Lib.hid (rbegin_any p As Ai Aa ns cs ni ci na ca (ln + 1) e0 s W1 hs)
    unfold sC at GB
    have HB0 := Lib.hid hb
    clear hb
    cases hbe : beginP p (wordsL (numsOf s)) with
    | error k =>
      have HE := Lib.hid (show lineL p (numsOf s) = .error k by rw [HLB.out, hbe])
      have GE := Lib.hid (GB.out.mono (R' := fun e w' => e = .returned (.agg (sC p (.slice As ns cs) (.slice Ai ni ci) (.slice Aa na ca) (ln + 1) k).toArray) ∧ Below W1.heap.size W1 w') (fun e w' h => by
        unfold BeginQ at h
        rw [hbe] at h
        exact ⟨h.2, h.1⟩))
      clear GB hbe
      unfold sC
      go_enter Try.func21, Try.ntmps21
      go_upto_region 2 with (fail)
      have hx1 := HW1.out
      unfold sC zS at hx1
      rw [hx1]
      clear hx1
      have x0 : W1.cell? ⟨w.heap.size, 0, none⟩ = some (.int .i64 p.c0) := HK2.out.cell 0
      have x1 : W1.cell? ⟨w.heap.size, 1, none⟩ = some (.int .i64 p.c1) := HK2.out.cell 1
      have x2 : W1.cell? ⟨w.heap.size, 2, none⟩ = some (.int .i64 p.c2) := HK2.out.cell 2
      have x3 : W1.cell? ⟨w.heap.size, 3, none⟩ = some (.slice As ns cs) := HK2.out.cell 3
      have x4 : W1.cell? ⟨w.heap.size, 4, none⟩ = some (.slice Ai ni ci) := HK2.out.cell 4
      have x5 : W1.cell? ⟨w.heap.size, 5, none⟩ = some (.int .i64 p.v) := HK2.out.cell 5
      have x6 : W1.cell? ⟨w.heap.size, 6, none⟩ = some (.slice Aa na ca) := HK2.out.cell 6
      have x7 : W1.cell? ⟨w.heap.size, 7, none⟩ = some (.bool p.b) := HK2.out.cell 7
      have x8 : W1.cell? ⟨w.heap.size, 8, none⟩ = some (.int .i64 (ln + 1)) := HK2.out.cell 8
      have x9 : W1.cell? ⟨w.heap.size, 9, none⟩ = some (.int .i64 e0) := HK2.out.cell 9
      have xz := fun i => HK2.out.frozen i
      rw [HB0.out] at x7
      rw [HB0.out] at GE
      clear xz
      go_wp2_with fail
      refine GE.out.mono ?_
      rintro e w5 ⟨rfl, hb5⟩
      have K5 := Lib.hid (HK4.out.below hb5 (by rw [S1.out]; omega))
      have T5 := Lib.hid (T1.out.trans (.ofNew hb5))
      clear hb5
      unfold sC
      go_wp2_with (have _t := K5.out; refine wpList_store_blk (cs := zS.toArray) rfl _ _ _ rfl (ds := [.int .i64 p.c0, .int .i64 p.c1, .int .i64 p.c2, .slice As ns cs, .slice Ai ni ci, .int .i64 p.v, .slice Aa na ca, .bool p.b, .int .i64 (ln + 1), .int .i64 k]) (by exact K5.out) rfl rfl rfl (by kernel_rfl) (by intro u hu; simp only [List.mem_cons, List.mem_nil_iff, or_false] at hu; rcases hu with rfl | rfl | rfl | rfl | rfl | rfl | rfl | rfl | rfl | rfl <;> rfl) ?_; clear _t; intro w7 X7 g7)
      have r0 : w7.cell? ⟨w.heap.size + 1, 0, none⟩ = some (.int .i64 p.c0) := X7.cell 0
      have r1 : w7.cell? ⟨w.heap.size + 1, 1, none⟩ = some (.int .i64 p.c1) := X7.cell 1
      have r2 : w7.cell? ⟨w.heap.size + 1, 2, none⟩ = some (.int .i64 p.c2) := X7.cell 2
      have r3 : w7.cell? ⟨w.heap.size + 1, 3, none⟩ = some (.slice As ns cs) := X7.cell 3
      have r4 : w7.cell? ⟨w.heap.size + 1, 4, none⟩ = some (.slice Ai ni ci) := X7.cell 4
      have r5 : w7.cell? ⟨w.heap.size + 1, 5, none⟩ = some (.int .i64 p.v) := X7.cell 5
      have r6 : w7.cell? ⟨w.heap.size + 1, 6, none⟩ = some (.slice Aa na ca) := X7.cell 6
      have r7 : w7.cell? ⟨w.heap.size + 1, 7, none⟩ = some (.bool p.b) := X7.cell 7
      have r8 : w7.cell? ⟨w.heap.size + 1, 8, none⟩ = some (.int .i64 (ln + 1)) := X7.cell 8
      have r9 : w7.cell? ⟨w.heap.size + 1, 9, none⟩ = some (.int .i64 k) := X7.cell 9
      refine bodyPost_ret (v := .agg #[.int .i64 p.c0, .int .i64 p.c1, .int .i64 p.c2, .slice As ns cs, .slice Ai ni ci, .int .i64 p.v, .slice Aa na ca, .bool p.b, .int .i64 (ln + 1), .int .i64 k]) ?_ rfl ?_
      · simp [results, Try.results21, go_sem, r0, r1, r2, r3, r4, r5, r6, r7, r8, r9]
      · have tg := TurnsIn.ofGrown (S := fun x => x = w.heap.size + 1) g7 (fun b hb => by injection hb with hb; exact hb.symm)
        have t7 := (T5.out).then_ tg (by omega)
        unfold OneQ
        rw [HE.out]
        exact ⟨t7, As, ns, cs, Ai, ni, ci, Aa, na, ca, rfl⟩
    | ok q =>
      have HE := Lib.hid (show lineL p (numsOf s) = .ok q by rw [HLB.out, hbe])
      have GE := Lib.hid (GB.out.mono (R' := fun e w' => (∃ As ns cs Ai ni ci, e = .returned (.agg (sC q (.slice As ns cs) (.slice Ai ni ci) (.slice Aa na ca) (ln + 1) e0).toArray) ∧ Own w' W1.heap.size 5 .u8 (.slice As ns cs) q.sd ∧ Own w' W1.heap.size 5 .u8 (.slice Ai ni ci) q.im) ∧ Below W1.heap.size W1 w') (fun e w' h => by
        unfold BeginQ at h
        rw [hbe] at h
        exact ⟨h.2, h.1⟩))
      have HQA := Lib.hid (show q.al = p.al by
        unfold beginP at hbe
        split at hbe
        · split at hbe
          · cases hbe
          · cases hbe; rfl
        · cases hbe)
      clear GB hbe
      unfold sC
      go_enter Try.func21, Try.ntmps21
      go_upto_region 2 with (fail)
      have hx1 := HW1.out
      unfold sC zS at hx1
      rw [hx1]
      clear hx1
      have x0 : W1.cell? ⟨w.heap.size, 0, none⟩ = some (.int .i64 p.c0) := HK2.out.cell 0
      have x1 : W1.cell? ⟨w.heap.size, 1, none⟩ = some (.int .i64 p.c1) := HK2.out.cell 1
      have x2 : W1.cell? ⟨w.heap.size, 2, none⟩ = some (.int .i64 p.c2) := HK2.out.cell 2
      have x3 : W1.cell? ⟨w.heap.size, 3, none⟩ = some (.slice As ns cs) := HK2.out.cell 3
      have x4 : W1.cell? ⟨w.heap.size, 4, none⟩ = some (.slice Ai ni ci) := HK2.out.cell 4
      have x5 : W1.cell? ⟨w.heap.size, 5, none⟩ = some (.int .i64 p.v) := HK2.out.cell 5
      have x6 : W1.cell? ⟨w.heap.size, 6, none⟩ = some (.slice Aa na ca) := HK2.out.cell 6
      have x7 : W1.cell? ⟨w.heap.size, 7, none⟩ = some (.bool p.b) := HK2.out.cell 7
      have x8 : W1.cell? ⟨w.heap.size, 8, none⟩ = some (.int .i64 (ln + 1)) := HK2.out.cell 8
      have x9 : W1.cell? ⟨w.heap.size, 9, none⟩ = some (.int .i64 e0) := HK2.out.cell 9
      have xz := fun i => HK2.out.frozen i
      rw [HB0.out] at x7
      rw [HB0.out] at GE
      clear xz
      go_wp2_with fail
      refine GE.out.mono ?_
      rintro e w5 ⟨⟨Bs, ms, ds, Bi, mi, di, rfl, os5, oi5⟩, hb5⟩
      have K5 := Lib.hid (HK4.out.below hb5 (by rw [S1.out]; omega))
      have T5 := Lib.hid (T1.out.trans (.ofNew hb5))
      have R5 := Lib.hid (show SRows w5 B q (.slice Bs ms ds) (.slice Bi mi di) (.slice Aa na ca) es from ⟨os5.mono (by rw [S1.out]; omega), oi5.mono (by rw [S1.out]; omega), (R1.out.out (S := fun _ => False) (.ofNew hb5) (fun _ h => h.elim)).oa, R1.out.al.trans HQA.out.symm, (R1.out.out (S := fun _ => False) (.ofNew hb5) (fun _ h => h.elim)).ds⟩)
      clear hb5 os5 oi5
      unfold sC
      go_wp2_with (have _t := K5.out; refine wpList_store_blk (cs := zS.toArray) rfl _ _ _ rfl (ds := [.int .i64 q.c0, .int .i64 q.c1, .int .i64 q.c2, .slice Bs ms ds, .slice Bi mi di, .int .i64 q.v, .slice Aa na ca, .bool q.b, .int .i64 (ln + 1), .int .i64 e0]) (by exact K5.out) rfl rfl rfl (by kernel_rfl) (by intro u hu; simp only [List.mem_cons, List.mem_nil_iff, or_false] at hu; rcases hu with rfl | rfl | rfl | rfl | rfl | rfl | rfl | rfl | rfl | rfl <;> rfl) ?_; clear _t; intro w7 X7 g7)
      have r0 : w7.cell? ⟨w.heap.size + 1, 0, none⟩ = some (.int .i64 q.c0) := X7.cell 0
      have r1 : w7.cell? ⟨w.heap.size + 1, 1, none⟩ = some (.int .i64 q.c1) := X7.cell 1
      have r2 : w7.cell? ⟨w.heap.size + 1, 2, none⟩ = some (.int .i64 q.c2) := X7.cell 2
      have r3 : w7.cell? ⟨w.heap.size + 1, 3, none⟩ = some (.slice Bs ms ds) := X7.cell 3
      have r4 : w7.cell? ⟨w.heap.size + 1, 4, none⟩ = some (.slice Bi mi di) := X7.cell 4
      have r5 : w7.cell? ⟨w.heap.size + 1, 5, none⟩ = some (.int .i64 q.v) := X7.cell 5
      have r6 : w7.cell? ⟨w.heap.size + 1, 6, none⟩ = some (.slice Aa na ca) := X7.cell 6
      have r7 : w7.cell? ⟨w.heap.size + 1, 7, none⟩ = some (.bool q.b) := X7.cell 7
      have r8 : w7.cell? ⟨w.heap.size + 1, 8, none⟩ = some (.int .i64 (ln + 1)) := X7.cell 8
      have r9 : w7.cell? ⟨w.heap.size + 1, 9, none⟩ = some (.int .i64 e0) := X7.cell 9
      refine bodyPost_ret (v := .agg #[.int .i64 q.c0, .int .i64 q.c1, .int .i64 q.c2, .slice Bs ms ds, .slice Bi mi di, .int .i64 q.v, .slice Aa na ca, .bool q.b, .int .i64 (ln + 1), .int .i64 e0]) ?_ rfl ?_
      · simp [results, Try.results21, go_sem, r0, r1, r2, r3, r4, r5, r6, r7, r8, r9]
      · have tg := TurnsIn.ofGrown (S := fun x => x = w.heap.size + 1) g7 (fun b hb => by injection hb with hb; exact hb.symm)
        have t7 := (T5.out).then_ tg (by omega)
        unfold OneQ
        rw [HE.out]
        exact ⟨t7, Bs, ms, ds, Bi, mi, di, Aa, na, ca, es, rfl, R5.out.far K5.out tg⟩
  have hbt : p.b = true := by cases h : p.b with | true => rfl | false => exact absurd h hb
  have HLA := Lib.hid (show lineL p (numsOf s) = match actL (numsOf s) with
      | .error e => .error e
      | .ok a => .ok { p with al := p.al ++ [a] } by rw [HLR.out, if_neg hb])
  have GA := Lib.hid (ract_any s W1 hs)
  have HBT := Lib.hid hbt
  clear hb hbt
  cases hac : actL (numsOf s) with
  | error k =>
    have HE := Lib.hid (show lineL p (numsOf s) = .error k by rw [HLA.out, hac])
    have hk : k ≠ 0 := by
      unfold actL at hac
      split at hac
      · cases hac; decide
      · split at hac
        · cases hac; decide
        · cases hac
    have dk : (k == 0) = false := by rw [beq_eq_false_iff_ne]; exact hk
    have GE := Lib.hid (GA.out.mono (R' := fun e w' => e = .returned (.tuple #[actV zeroA (.slice none 0 0), .int .i64 k]) ∧ Below W1.heap.size W1 w') (fun e w' h => by
      unfold ActTo at h
      rw [hac] at h
      exact ⟨h.2, h.1⟩))
    unfold actV zeroA at GE
    clear GA hac hk
    unfold sC
    go_enter Try.func21, Try.ntmps21
    go_upto_region 2 with (fail)
    have hx1 := HW1.out
    unfold sC zS at hx1
    rw [hx1]
    clear hx1
    have x0 : W1.cell? ⟨w.heap.size, 0, none⟩ = some (.int .i64 p.c0) := HK2.out.cell 0
    have x1 : W1.cell? ⟨w.heap.size, 1, none⟩ = some (.int .i64 p.c1) := HK2.out.cell 1
    have x2 : W1.cell? ⟨w.heap.size, 2, none⟩ = some (.int .i64 p.c2) := HK2.out.cell 2
    have x3 : W1.cell? ⟨w.heap.size, 3, none⟩ = some (.slice As ns cs) := HK2.out.cell 3
    have x4 : W1.cell? ⟨w.heap.size, 4, none⟩ = some (.slice Ai ni ci) := HK2.out.cell 4
    have x5 : W1.cell? ⟨w.heap.size, 5, none⟩ = some (.int .i64 p.v) := HK2.out.cell 5
    have x6 : W1.cell? ⟨w.heap.size, 6, none⟩ = some (.slice Aa na ca) := HK2.out.cell 6
    have x7 : W1.cell? ⟨w.heap.size, 7, none⟩ = some (.bool p.b) := HK2.out.cell 7
    have x8 : W1.cell? ⟨w.heap.size, 8, none⟩ = some (.int .i64 (ln + 1)) := HK2.out.cell 8
    have x9 : W1.cell? ⟨w.heap.size, 9, none⟩ = some (.int .i64 e0) := HK2.out.cell 9
    have xz := fun i => HK2.out.frozen i
    rw [HBT.out] at x7
    clear x0 x1 x2 x3 x4 x5 x6 x8 x9 xz
    go_wp2_with fail
    refine GE.out.mono ?_
    rintro e w5 ⟨rfl, hb5⟩
    clear x7
    have K2 := (HK2.out.below hb5 (by rw [S1.out]; omega)).alloc (.cells #[.int .u8 0, .int .u8 0, .int .i64 0, .int .i64 0, .int .u64 0, .slice none 0 0] 40)
    have K5 := Lib.hid (((HK4.out.below hb5 (by rw [S1.out]; omega)).alloc (.cells #[.int .u8 0, .int .u8 0, .int .i64 0, .int .i64 0, .int .u64 0, .slice none 0 0] 40)).far (p := ⟨w.heap.size, 9, none⟩) (by simp) (.int .i64 k))
    have T5 := Lib.hid ((T1.out.trans (.ofNew hb5)).alloc (.cells #[.int .u8 0, .int .u8 0, .int .i64 0, .int .i64 0, .int .u64 0, .slice none 0 0] 40))
    have T6 := Lib.hid (T5.out.then_ ((TurnsIn.refl (fun x => x = w.heap.size) _).setCell (p := ⟨w.heap.size, 9, none⟩) (.inl rfl) (.int .i64 k)) (by omega))
    clear hb5
    have y0 : (w5.alloc (.cells #[.int .u8 0, .int .u8 0, .int .i64 0, .int .i64 0, .int .u64 0, .slice none 0 0] 40)).cell? ⟨w.heap.size, 0, none⟩ = some (.int .i64 p.c0) := K2.cell 0
    have y1 : (w5.alloc (.cells #[.int .u8 0, .int .u8 0, .int .i64 0, .int .i64 0, .int .u64 0, .slice none 0 0] 40)).cell? ⟨w.heap.size, 1, none⟩ = some (.int .i64 p.c1) := K2.cell 1
    have y2 : (w5.alloc (.cells #[.int .u8 0, .int .u8 0, .int .i64 0, .int .i64 0, .int .u64 0, .slice none 0 0] 40)).cell? ⟨w.heap.size, 2, none⟩ = some (.int .i64 p.c2) := K2.cell 2
    have y3 : (w5.alloc (.cells #[.int .u8 0, .int .u8 0, .int .i64 0, .int .i64 0, .int .u64 0, .slice none 0 0] 40)).cell? ⟨w.heap.size, 3, none⟩ = some (.slice As ns cs) := K2.cell 3
    have y4 : (w5.alloc (.cells #[.int .u8 0, .int .u8 0, .int .i64 0, .int .i64 0, .int .u64 0, .slice none 0 0] 40)).cell? ⟨w.heap.size, 4, none⟩ = some (.slice Ai ni ci) := K2.cell 4
    have y5 : (w5.alloc (.cells #[.int .u8 0, .int .u8 0, .int .i64 0, .int .i64 0, .int .u64 0, .slice none 0 0] 40)).cell? ⟨w.heap.size, 5, none⟩ = some (.int .i64 p.v) := K2.cell 5
    have y6 : (w5.alloc (.cells #[.int .u8 0, .int .u8 0, .int .i64 0, .int .i64 0, .int .u64 0, .slice none 0 0] 40)).cell? ⟨w.heap.size, 6, none⟩ = some (.slice Aa na ca) := K2.cell 6
    have y7 : (w5.alloc (.cells #[.int .u8 0, .int .u8 0, .int .i64 0, .int .i64 0, .int .u64 0, .slice none 0 0] 40)).cell? ⟨w.heap.size, 7, none⟩ = some (.bool p.b) := K2.cell 7
    have y8 : (w5.alloc (.cells #[.int .u8 0, .int .u8 0, .int .i64 0, .int .i64 0, .int .u64 0, .slice none 0 0] 40)).cell? ⟨w.heap.size, 8, none⟩ = some (.int .i64 (ln + 1)) := K2.cell 8
    have y9 : (w5.alloc (.cells #[.int .u8 0, .int .u8 0, .int .i64 0, .int .i64 0, .int .u64 0, .slice none 0 0] 40)).cell? ⟨w.heap.size, 9, none⟩ = some (.int .i64 e0) := K2.cell 9
    have yz := fun i => K2.frozen i
    clear K2
    go_upto_region 9 with (fail)
    go_wp2_with (have _t := K5.out; refine wpList_store_blk (cs := zS.toArray) rfl _ _ _ rfl (ds := [.int .i64 p.c0, .int .i64 p.c1, .int .i64 p.c2, .slice As ns cs, .slice Ai ni ci, .int .i64 p.v, .slice Aa na ca, .bool p.b, .int .i64 (ln + 1), .int .i64 k]) (by exact K5.out) rfl rfl rfl (by kernel_rfl) (by intro u hu; simp only [List.mem_cons, List.mem_nil_iff, or_false] at hu; rcases hu with rfl | rfl | rfl | rfl | rfl | rfl | rfl | rfl | rfl | rfl <;> rfl) ?_; clear _t; intro w7 X7 g7)
    have r0 : w7.cell? ⟨w.heap.size + 1, 0, none⟩ = some (.int .i64 p.c0) := X7.cell 0
    have r1 : w7.cell? ⟨w.heap.size + 1, 1, none⟩ = some (.int .i64 p.c1) := X7.cell 1
    have r2 : w7.cell? ⟨w.heap.size + 1, 2, none⟩ = some (.int .i64 p.c2) := X7.cell 2
    have r3 : w7.cell? ⟨w.heap.size + 1, 3, none⟩ = some (.slice As ns cs) := X7.cell 3
    have r4 : w7.cell? ⟨w.heap.size + 1, 4, none⟩ = some (.slice Ai ni ci) := X7.cell 4
    have r5 : w7.cell? ⟨w.heap.size + 1, 5, none⟩ = some (.int .i64 p.v) := X7.cell 5
    have r6 : w7.cell? ⟨w.heap.size + 1, 6, none⟩ = some (.slice Aa na ca) := X7.cell 6
    have r7 : w7.cell? ⟨w.heap.size + 1, 7, none⟩ = some (.bool p.b) := X7.cell 7
    have r8 : w7.cell? ⟨w.heap.size + 1, 8, none⟩ = some (.int .i64 (ln + 1)) := X7.cell 8
    have r9 : w7.cell? ⟨w.heap.size + 1, 9, none⟩ = some (.int .i64 k) := X7.cell 9
    refine bodyPost_ret (v := .agg #[.int .i64 p.c0, .int .i64 p.c1, .int .i64 p.c2, .slice As ns cs, .slice Ai ni ci, .int .i64 p.v, .slice Aa na ca, .bool p.b, .int .i64 (ln + 1), .int .i64 k]) ?_ rfl ?_
    · simp [results, Try.results21, go_sem, r0, r1, r2, r3, r4, r5, r6, r7, r8, r9]
    · have tg := TurnsIn.ofGrown (S := fun x => x = w.heap.size + 1) g7 (fun b hb => by injection hb with hb; exact hb.symm)
      have t7 := (T6.out).then_ tg (by omega)
      unfold OneQ
      rw [HE.out]
      exact ⟨t7, As, ns, cs, Ai, ni, ci, Aa, na, ca, rfl⟩
  | ok a =>
    have HE := Lib.hid (show lineL p (numsOf s) = .ok { p with al := p.al ++ [a] } by rw [HLA.out, hac])
    have GE := Lib.hid (GA.out.mono (R' := fun e w' => (∃ A c, e = .returned (.tuple #[actV a (.slice A a.d.length c), .int .i64 0]) ∧ Own w' W1.heap.size 5 .u8 (.slice A a.d.length c) a.d) ∧ Below W1.heap.size W1 w') (fun e w' h => by
      unfold ActTo at h
      rw [hac] at h
      obtain ⟨h1, v, h2, h3⟩ := h
      obtain ⟨A, c, rfl, _, _, _⟩ := h3.opened
      exact ⟨⟨A, c, h2, h3⟩, h1⟩))
    unfold actV at GE
    obtain ⟨nd, hnd⟩ : ∃ n, a.d.length = n := ⟨_, rfl⟩
    rw [hnd] at GE
    obtain ⟨ka, ma, pa, na', va, da⟩ := a
    simp only at GE hnd
    clear GA hac hnd
    unfold sC
    go_enter Try.func21, Try.ntmps21
    go_upto_region 2 with (fail)
    have hx1 := HW1.out
    unfold sC zS at hx1
    rw [hx1]
    clear hx1
    have x0 : W1.cell? ⟨w.heap.size, 0, none⟩ = some (.int .i64 p.c0) := HK2.out.cell 0
    have x1 : W1.cell? ⟨w.heap.size, 1, none⟩ = some (.int .i64 p.c1) := HK2.out.cell 1
    have x2 : W1.cell? ⟨w.heap.size, 2, none⟩ = some (.int .i64 p.c2) := HK2.out.cell 2
    have x3 : W1.cell? ⟨w.heap.size, 3, none⟩ = some (.slice As ns cs) := HK2.out.cell 3
    have x4 : W1.cell? ⟨w.heap.size, 4, none⟩ = some (.slice Ai ni ci) := HK2.out.cell 4
    have x5 : W1.cell? ⟨w.heap.size, 5, none⟩ = some (.int .i64 p.v) := HK2.out.cell 5
    have x6 : W1.cell? ⟨w.heap.size, 6, none⟩ = some (.slice Aa na ca) := HK2.out.cell 6
    have x7 : W1.cell? ⟨w.heap.size, 7, none⟩ = some (.bool p.b) := HK2.out.cell 7
    have x8 : W1.cell? ⟨w.heap.size, 8, none⟩ = some (.int .i64 (ln + 1)) := HK2.out.cell 8
    have x9 : W1.cell? ⟨w.heap.size, 9, none⟩ = some (.int .i64 e0) := HK2.out.cell 9
    have xz := fun i => HK2.out.frozen i
    rw [HBT.out] at x7
    clear x0 x1 x2 x3 x4 x5 x6 x8 x9 xz
    go_wp2_with fail
    refine GE.out.mono ?_
    rintro e w5 ⟨⟨A5, c5, rfl, o5⟩, hb5⟩
    clear x7
    have K2 := Lib.hid ((HK2.out.below hb5 (by rw [S1.out]; omega)).alloc (.cells #[.int .u8 ka, .int .u8 ma, .int .i64 pa, .int .i64 na', .int .u64 va, .slice A5 nd c5] 40))
    have K5 := Lib.hid ((HK4.out.below hb5 (by rw [S1.out]; omega)).alloc (.cells #[.int .u8 ka, .int .u8 ma, .int .i64 pa, .int .i64 na', .int .u64 va, .slice A5 nd c5] 40))
    have T5 := Lib.hid ((T1.out.trans (.ofNew hb5)).alloc (.cells #[.int .u8 ka, .int .u8 ma, .int .i64 pa, .int .i64 na', .int .u64 va, .slice A5 nd c5] 40))
    have R5 := Lib.hid ((R1.out.out (S := fun _ => False) (.ofNew hb5) (fun _ h => h.elim)).out ((TurnsIn.refl (fun _ => False) w5).alloc (.cells #[.int .u8 ka, .int .u8 ma, .int .i64 pa, .int .i64 na', .int .u64 va, .slice A5 nd c5] 40)) (fun _ h => h.elim))
    have O5 := Lib.hid ((o5.mono (B' := B) (by rw [S1.out]; omega)).alloc (.cells #[.int .u8 ka, .int .u8 ma, .int .i64 pa, .int .i64 na', .int .u64 va, .slice A5 nd c5] 40))
    have AB := Block.new w5 40 #[.int .u8 ka, .int .u8 ma, .int .i64 pa, .int .i64 na', .int .u64 va, .slice A5 nd c5]
    have hB6 : B ≤ (w5.alloc (.cells #[.int .u8 ka, .int .u8 ma, .int .i64 pa, .int .i64 na', .int .u64 va, .slice A5 nd c5] 40)).heap.size := by have := hb5.size; rw [S1.out] at this; simp; omega
    have OA := R5.out.oa
    clear hb5 o5
    have y0 : (w5.alloc (.cells #[.int .u8 ka, .int .u8 ma, .int .i64 pa, .int .i64 na', .int .u64 va, .slice A5 nd c5] 40)).cell? ⟨w.heap.size, 0, none⟩ = some (.int .i64 p.c0) := K2.out.cell 0
    have y1 : (w5.alloc (.cells #[.int .u8 ka, .int .u8 ma, .int .i64 pa, .int .i64 na', .int .u64 va, .slice A5 nd c5] 40)).cell? ⟨w.heap.size, 1, none⟩ = some (.int .i64 p.c1) := K2.out.cell 1
    have y2 : (w5.alloc (.cells #[.int .u8 ka, .int .u8 ma, .int .i64 pa, .int .i64 na', .int .u64 va, .slice A5 nd c5] 40)).cell? ⟨w.heap.size, 2, none⟩ = some (.int .i64 p.c2) := K2.out.cell 2
    have y3 : (w5.alloc (.cells #[.int .u8 ka, .int .u8 ma, .int .i64 pa, .int .i64 na', .int .u64 va, .slice A5 nd c5] 40)).cell? ⟨w.heap.size, 3, none⟩ = some (.slice As ns cs) := K2.out.cell 3
    have y4 : (w5.alloc (.cells #[.int .u8 ka, .int .u8 ma, .int .i64 pa, .int .i64 na', .int .u64 va, .slice A5 nd c5] 40)).cell? ⟨w.heap.size, 4, none⟩ = some (.slice Ai ni ci) := K2.out.cell 4
    have y5 : (w5.alloc (.cells #[.int .u8 ka, .int .u8 ma, .int .i64 pa, .int .i64 na', .int .u64 va, .slice A5 nd c5] 40)).cell? ⟨w.heap.size, 5, none⟩ = some (.int .i64 p.v) := K2.out.cell 5
    have y6 : (w5.alloc (.cells #[.int .u8 ka, .int .u8 ma, .int .i64 pa, .int .i64 na', .int .u64 va, .slice A5 nd c5] 40)).cell? ⟨w.heap.size, 6, none⟩ = some (.slice Aa na ca) := K2.out.cell 6
    have y7 : (w5.alloc (.cells #[.int .u8 ka, .int .u8 ma, .int .i64 pa, .int .i64 na', .int .u64 va, .slice A5 nd c5] 40)).cell? ⟨w.heap.size, 7, none⟩ = some (.bool p.b) := K2.out.cell 7
    have y8 : (w5.alloc (.cells #[.int .u8 ka, .int .u8 ma, .int .i64 pa, .int .i64 na', .int .u64 va, .slice A5 nd c5] 40)).cell? ⟨w.heap.size, 8, none⟩ = some (.int .i64 (ln + 1)) := K2.out.cell 8
    have y9 : (w5.alloc (.cells #[.int .u8 ka, .int .u8 ma, .int .i64 pa, .int .i64 na', .int .u64 va, .slice A5 nd c5] 40)).cell? ⟨w.heap.size, 9, none⟩ = some (.int .i64 e0) := K2.out.cell 9
    have yz := fun i => K2.out.frozen i
    go_upto_region 10 with (fail)
    clear y0 y1 y2 y3 y4 y5 y6 y7 y8 y9 yz
    obtain ⟨W6, hW6⟩ : ∃ W6, (w5.alloc (.cells #[.int .u8 ka, .int .u8 ma, .int .i64 pa, .int .i64 na', .int .u64 va, .slice A5 nd c5] 40)) = W6 := ⟨_, rfl⟩
    rw [hW6] at K2 K5 T5 R5 O5 AB hB6 OA ⊢
    clear hW6
    have y0 : W6.cell? ⟨w.heap.size, 0, none⟩ = some (.int .i64 p.c0) := K2.out.cell 0
    have y1 : W6.cell? ⟨w.heap.size, 1, none⟩ = some (.int .i64 p.c1) := K2.out.cell 1
    have y2 : W6.cell? ⟨w.heap.size, 2, none⟩ = some (.int .i64 p.c2) := K2.out.cell 2
    have y3 : W6.cell? ⟨w.heap.size, 3, none⟩ = some (.slice As ns cs) := K2.out.cell 3
    have y4 : W6.cell? ⟨w.heap.size, 4, none⟩ = some (.slice Ai ni ci) := K2.out.cell 4
    have y5 : W6.cell? ⟨w.heap.size, 5, none⟩ = some (.int .i64 p.v) := K2.out.cell 5
    have y6 : W6.cell? ⟨w.heap.size, 6, none⟩ = some (.slice Aa na ca) := K2.out.cell 6
    have y7 : W6.cell? ⟨w.heap.size, 7, none⟩ = some (.bool p.b) := K2.out.cell 7
    have y8 : W6.cell? ⟨w.heap.size, 8, none⟩ = some (.int .i64 (ln + 1)) := K2.out.cell 8
    have y9 : W6.cell? ⟨w.heap.size, 9, none⟩ = some (.int .i64 e0) := K2.out.cell 9
    have yz := fun i => K2.out.frozen i
    have q0 : W6.cell? ⟨w5.heap.size, 0, none⟩ = some (.int .u8 ka) := AB.cell 0
    have q1 : W6.cell? ⟨w5.heap.size, 1, none⟩ = some (.int .u8 ma) := AB.cell 1
    have q2 : W6.cell? ⟨w5.heap.size, 2, none⟩ = some (.int .i64 pa) := AB.cell 2
    have q3 : W6.cell? ⟨w5.heap.size, 3, none⟩ = some (.int .i64 na') := AB.cell 3
    have q4 : W6.cell? ⟨w5.heap.size, 4, none⟩ = some (.int .u64 va) := AB.cell 4
    have q5 : W6.cell? ⟨w5.heap.size, 5, none⟩ = some (.slice A5 nd c5) := AB.cell 5
    have qz := fun i => AB.frozen i
    clear AB qz
    go_upto_region 11 with (at_builtin; have _t := OA; go_loud (refine wpList_append_act rfl _ _ rfl ⟨ka, ma, pa, na', va, da⟩ A5 nd c5 (by exact OA) rfl rfl hes hB6 ?_; intro A8 c8 w8 O8 t8; have b8 := K2.out.out t8 (OA.ne_block K2.out (by decide)); have u0 : w8.cell? ⟨w.heap.size, 0, none⟩ = some (.int .i64 p.c0) := b8.cell 0; have u1 : w8.cell? ⟨w.heap.size, 1, none⟩ = some (.int .i64 p.c1) := b8.cell 1; have u2 : w8.cell? ⟨w.heap.size, 2, none⟩ = some (.int .i64 p.c2) := b8.cell 2; have u3 : w8.cell? ⟨w.heap.size, 3, none⟩ = some (.slice As ns cs) := b8.cell 3; have u4 : w8.cell? ⟨w.heap.size, 4, none⟩ = some (.slice Ai ni ci) := b8.cell 4; have u5 : w8.cell? ⟨w.heap.size, 5, none⟩ = some (.int .i64 p.v) := b8.cell 5; have u6 : w8.cell? ⟨w.heap.size, 6, none⟩ = some (.slice Aa na ca) := b8.cell 6; have u7 : w8.cell? ⟨w.heap.size, 7, none⟩ = some (.bool p.b) := b8.cell 7; have u8 : w8.cell? ⟨w.heap.size, 8, none⟩ = some (.int .i64 (ln + 1)) := b8.cell 8; have u9 : w8.cell? ⟨w.heap.size, 9, none⟩ = some (.int .i64 e0) := b8.cell 9; have uz := fun i => b8.frozen i; have HB8 := Lib.hid b8; have HO8 := Lib.hid O8; have HT8 := Lib.hid t8; clear _t OA b8 O8 t8))
    have R8 := R5.out.add O5.out HT8.out HO8.out
    have K8 := K5.out.out HT8.out (R5.out.oa.ne_block K5.out (by decide))
    have K9 := Lib.hid (K8.far (p := ⟨w.heap.size, 6, none⟩) (by simp) (.slice A8 (es.length + 1) c8))
    have R9 := Lib.hid (R8.far HB8.out ((TurnsIn.refl (fun b => b = w.heap.size) w8).setCell (p := ⟨w.heap.size, 6, none⟩) (.inl rfl) (.slice A8 (es.length + 1) c8)))
    have T9 := Lib.hid ((T5.out.trans HT8.out).then_ ((TurnsIn.refl (fun x => x = w.heap.size) w8).setCell (p := ⟨w.heap.size, 6, none⟩) (.inl rfl) (.slice A8 (es.length + 1) c8)) (by omega))
    clear K8 R8
    go_wp2_with (have _t := K9.out; refine wpList_store_blk (cs := zS.toArray) rfl _ _ _ rfl (ds := [.int .i64 p.c0, .int .i64 p.c1, .int .i64 p.c2, .slice As ns cs, .slice Ai ni ci, .int .i64 p.v, .slice A8 (es.length + 1) c8, .bool p.b, .int .i64 (ln + 1), .int .i64 e0]) (by exact K9.out) rfl rfl rfl (by kernel_rfl) (by intro u hu; simp only [List.mem_cons, List.mem_nil_iff, or_false] at hu; rcases hu with rfl | rfl | rfl | rfl | rfl | rfl | rfl | rfl | rfl | rfl <;> rfl) ?_; clear _t; intro w7 X7 g7)
    have r0 : w7.cell? ⟨w.heap.size + 1, 0, none⟩ = some (.int .i64 p.c0) := X7.cell 0
    have r1 : w7.cell? ⟨w.heap.size + 1, 1, none⟩ = some (.int .i64 p.c1) := X7.cell 1
    have r2 : w7.cell? ⟨w.heap.size + 1, 2, none⟩ = some (.int .i64 p.c2) := X7.cell 2
    have r3 : w7.cell? ⟨w.heap.size + 1, 3, none⟩ = some (.slice As ns cs) := X7.cell 3
    have r4 : w7.cell? ⟨w.heap.size + 1, 4, none⟩ = some (.slice Ai ni ci) := X7.cell 4
    have r5 : w7.cell? ⟨w.heap.size + 1, 5, none⟩ = some (.int .i64 p.v) := X7.cell 5
    have r6 : w7.cell? ⟨w.heap.size + 1, 6, none⟩ = some (.slice A8 (es.length + 1) c8) := X7.cell 6
    have r7 : w7.cell? ⟨w.heap.size + 1, 7, none⟩ = some (.bool p.b) := X7.cell 7
    have r8 : w7.cell? ⟨w.heap.size + 1, 8, none⟩ = some (.int .i64 (ln + 1)) := X7.cell 8
    have r9 : w7.cell? ⟨w.heap.size + 1, 9, none⟩ = some (.int .i64 e0) := X7.cell 9
    refine bodyPost_ret (v := .agg #[.int .i64 p.c0, .int .i64 p.c1, .int .i64 p.c2, .slice As ns cs, .slice Ai ni ci, .int .i64 p.v, .slice A8 (es.length + 1) c8, .bool p.b, .int .i64 (ln + 1), .int .i64 e0]) ?_ rfl ?_
    · simp [results, Try.results21, go_sem, r0, r1, r2, r3, r4, r5, r6, r7, r8, r9]
    · have tg := TurnsIn.ofGrown (S := fun x => x = w.heap.size + 1) g7 (fun b hb => by injection hb with hb; exact hb.symm)
      have t7 := (T9.out).then_ tg (by omega)
      unfold OneQ
      rw [HE.out]
      exact ⟨t7, As, ns, cs, Ai, ni, ci, A8, es.length + 1, c8, _, rfl, R9.out.far K9.out tg⟩
end Go.Proofs.Ytngeemfcmoahoaa.Tv

namespace Go.Proofs.Ytngeemfcmoahoaa.Tv
open Go.ChangeShapes Go.WideShapes Go.ChangeAt Go.RowKit Go.Shelf Go.Proofs.Ytngeemfcmoahoaa.Kit Go.Proofs.Ytngeemfcmoahoaa.Tx Go.Proofs.Ytngeemfcmoahoaa.Ty
attribute [local go_sem] Oper.semAt_some

theorem lines_any (s : ByteArray) (w : World) : Calls Try.prog 19 #[.string s] w fun e w' => e = .returned (.func (.func 27) #[] #[.pointer (some ⟨w.heap.size, 0, none⟩)]) ∧ w' = w.alloc (.cells #[.string s] 9) := by
  have hmf : ∀ (fn : Fn) (first cap : Array Value) (w : World), (Instr.makeFunc fn first cap).run Try.prog w = .ok (.func fn first cap) w := fun _ _ _ _ => rfl
  go_enter Try.func19, Try.ntmps19
  go_wp2_with fail
  go_ret
  exact ⟨rfl, rfl⟩
theorem turns_put {S : Nat → Prop} {w w' : World} {l : Nat} (h : TurnsIn S w w') (hl : S l) (o : Obj) : TurnsIn S w (w'.putObj l o) :=
  h.trans (.ofGrown (grownBy_putObj' w' l o) fun b e => by cases e; exact hl)
/-- A round has ended, and another one may follow; none does. -/
structure RoundN (D Bx : Nat) (I : List (List Int × Bool) → World → Prop) (xs : List (List Int × Bool)) (W W' : World) : Prop where
  l : W'.heap[D + 1]? = W.heap[D + 1]?
  d : W'.heap[D]? = W.heap[D]?
  b : W'.heap[Bx]? = W.heap[Bx]?
  i : I xs W'
structure RoundR (D : Nat) (Ix : World → Prop) (W W' : World) : Prop where
  l : W'.heap[D + 1]? = W.heap[D + 1]?
  d : W'.heap[D]? = W.heap[D]?
  i : Ix W'
/-- How a round of the body may end. -/
def bodyR (D : Nat) (Bx : Nat) (I : List (List Int × Bool) → World → Prop) (Ix : World → Prop) (xs : List (List Int × Bool)) (W : World) : Exit → Act → World → Prop
  | .normal, _, W' => RoundN D Bx I xs W W'
  | .ret, _, W' => RoundR D Ix W W'
  | _, _, _ => False

theorem range_lines {n : Nat} {g : Operand} {p0 p1 : Tmp} {assign body : Code} {Q : Exit → Act → World → Prop} {a : Act} {w : World} {Bx : Nat} {s : ByteArray}
    (hn : 2 ≤ n) (hg : a.eval g = .func (.func 27) #[] #[.pointer (some ⟨Bx, 0, none⟩)]) (hB : Block w Bx 9 #[.string s]) (hs : s.size ≤ 1000000)
    (I : List (List Int × Bool) → World → Prop) (Ix : World → Prop)
    (hI : ∀ pre A B, I pre A → TurnsIn (fun b => b = Bx ∨ b = w.heap.size ∨ b = w.heap.size + 1) A B → I pre B)
    (hX : ∀ A B, Ix A → TurnsIn (fun b => b = Bx ∨ b = w.heap.size ∨ b = w.heap.size + 1) A B → Ix B) (h0 : I [] w)
    (hround : ∀ pre x W, I pre W → w.heap.size + 1 < W.heap.size → (pre ++ [x]) <+: linesL (numsOf s) →
      assign.wpIn (Fence.wide.inRound (w.heap.size + 1)) (n - 1 - 1) Try.prog (Exit.then (fun a₁ w₁ => TurnsIn (fun _ => False) W w₁ ∧ ∀ W2, TurnsIn (fun b => b = w.heap.size + 1) w₁ W2 → (∃ o, W2.heap[w.heap.size + 1]? = some o ∧ o.isCells = false) → (∃ o, W2.heap[w.heap.size]? = some o ∧ o.isCells = false) →
        body.wpIn (Fence.wide.inRound (w.heap.size + 1)) (n - 1 - 1) Try.prog (bodyR w.heap.size Bx I Ix (pre ++ [x]) W2) a₁ W2) (fun _ _ _ => False))
        { tmps := (a.tmps.setIfInBounds p0 (.int .i64 ((pre.length : Int) + 1))).setIfInBounds p1 (.agg #[.string (strOfNums x.1), .bool x.2]), defers := [] } W)
    (hdone : ∀ W, I (linesL (numsOf s)) W → W.heap[w.heap.size]? = some (.deferred (some [])) → Q .normal { a with defers := { target := .collected w.heap.size, args := #[] } :: a.defers } W)
    (hstop : ∀ W, Ix W → W.heap[w.heap.size]? = some (.deferred (some [])) → Code.ret.wpIn Fence.wide n Try.prog Q { a with defers := { target := .collected w.heap.size, args := #[] } :: a.defers } W) :
    (Code.rangeFunc g #[p0, p1] assign body).wpIn Fence.wide n Try.prog Q a w := by
  have hBl := hB.lt
  refine wpIn_rangeFunc fun fn hfn => ?_
  -- the loop's record
  obtain ⟨rc, hrc⟩ : ∃ rc : LoopState → Option Code → Loop, rc = fun st pe => { state := st, pending := pe, fn, tmps := a.tmps, params := #[p0, p1], assign, body, defers := w.heap.size } := ⟨_, rfl⟩
  obtain ⟨W1, hW1⟩ : ∃ W1, (w.alloc (.deferred (some []))).alloc (.loop (rc .ready none)) = W1 := ⟨_, rfl⟩
  have tW1 : TurnsIn (fun b => b = Bx ∨ b = w.heap.size ∨ b = w.heap.size + 1) w W1 := by rw [← hW1]; exact ((TurnsIn.refl _ w).alloc _).alloc _
  have hL1 : W1.heap[w.heap.size + 1]? = some (.loop (rc .ready none)) := by
    have := World.alloc_heap_new (w.alloc (.deferred (some []))) (.loop (rc .ready none))
    rw [← hW1]
    rwa [World.size_alloc] at this
  have hD1 : W1.heap[w.heap.size]? = some (.deferred (some [])) := by
    rw [← hW1]
    exact (Below.heap_alloc _ _ _ (by simp)).trans (World.alloc_heap_new w _)
  have hB1 : Block W1 Bx 9 #[.string s] := by rw [← hW1]; exact (hB.alloc _).alloc _
  refine ⟨w.heap.size + 1, [{ target := .collected w.heap.size, args := #[] }], W1, { target := .fn (.func 27) #[.pointer (some ⟨Bx, 0, none⟩)], args := #[.func (.yield (w.heap.size + 1)) #[] #[]] }, W1, 27,
    #[.func (.yield (w.heap.size + 1)) #[] #[]] ++ #[.pointer (some ⟨Bx, 0, none⟩)], W1, ?_, ?_, fun _ _ => trivial, ?_, fun _ => by omega, ?_⟩
  · rw [← hW1, hrc]
    exact run_enterLoop_outer _ _ _ _ _
  · simp only [resolve, hg]
    simp [go_sem]
  · simp [invoke, go_sem]
  have hne : Bx ≠ w.heap.size + 1 ∧ Bx ≠ w.heap.size := ⟨by omega, by omega⟩
  refine (lines1_in (n - 1) (by omega) (w.heap.size + 1) Bx s
    (fun pre W => I pre W ∧ W.heap[w.heap.size + 1]? = some (.loop (rc .ready none)) ∧ W.heap[w.heap.size]? = some (.deferred (some [])))
    (fun _ W => Ix W ∧ W.heap[w.heap.size + 1]? = some (.loop (rc .done (some .ret))) ∧ W.heap[w.heap.size]? = some (.deferred (some [])))
    ?_ ?_ ?_ W1 hB1 ⟨hI _ _ _ h0 tW1, hL1, hD1⟩ hs).mono ?_
  · rintro pre W v ⟨h1, h2, h3⟩
    exact ⟨hI _ _ _ h1 ((TurnsIn.refl _ W).setCell (p := ⟨Bx, 0, none⟩) (.inl (.inl rfl)) v), (Below.heap_setCell W _ v _ (Ne.symm hne.1)).trans h2, (Below.heap_setCell W _ v _ (Ne.symm hne.2)).trans h3⟩
  · rintro pre W k ⟨h1, h2, h3⟩
    exact ⟨hI _ _ _ h1 ((TurnsIn.refl _ W).drewN k), h2, h3⟩
  · rintro pre x W ⟨h1, h2, h3⟩ hp
    have hlt : w.heap.size + 1 < W.heap.size := (Array.getElem?_eq_some_iff.1 h2).1
    have hy := run_yield (P := Try.prog) (args := #[.int .i64 ((pre.length : Int) + 1), .agg #[.string (strOfNums x.1), .bool x.2]]) h2 (by rw [hrc]; rfl)
    rw [hrc] at hy
    refine ⟨fn, _, assign, body, hy, roundIn_of_wpIn trivial ?_⟩
    have hz : ∀ (t : Array Value) (u v : Value), ((#[p0, p1] : Array Tmp).zip #[u, v]).foldl (fun t (x : Tmp × Value) => t.setIfInBounds x.1 x.2) t = (t.setIfInBounds p0 u).setIfInBounds p1 v := fun t u v => by simp
    refine wpIn_mono (Eq.mpr (congrArg (fun t => Code.wpIn _ _ _ _ _ { tmps := t, defers := [] } W) (hz a.tmps _ _)) (hround pre x W h1 hlt hp)) ?_
    rintro e a1 w1 he
    cases e with
    | normal =>
      obtain ⟨t1, hbody⟩ := he
      have hl1 : w1.heap[w.heap.size + 1]? = some (.loop (rc .ready none)) := (t1.block _ hlt (fun h => h)).trans h2
      have hd1 : w1.heap[w.heap.size]? = some (.deferred (some [])) := (t1.block _ (by omega) (fun h => h)).trans h3
      have hlt1 : w.heap.size + 1 < w1.heap.size := (Array.getElem?_eq_some_iff.1 hl1).1
      refine ⟨_, run_beginRound hl1 (by rw [hrc]), ?_⟩
      obtain ⟨W2, hW2⟩ : ∃ W2, w1.putObj (w.heap.size + 1) (.loop { rc .ready none with state := .busy }) = W2 := ⟨_, rfl⟩
      have hl2 : W2.heap[w.heap.size + 1]? = some (.loop { rc .ready none with state := .busy }) := by rw [← hW2]; exact World.putObj_heap_same hlt1
      have hd2 : W2.heap[w.heap.size]? = some (.deferred (some [])) := by rw [← hW2]; exact (World.putObj_heap_other (by omega)).trans hd1
      have t2 : TurnsIn (fun b => b = w.heap.size + 1) w1 W2 := by rw [← hW2]; exact turns_put (TurnsIn.refl (fun b => b = w.heap.size + 1) w1) rfl _
      rw [hW2]
      refine wpIn_mono (hbody W2 t2 ⟨_, hl2, rfl⟩ ⟨_, hd2, rfl⟩) ?_
      have fin : ∀ (jump : Option Code) (W3 : World), W3.heap[w.heap.size + 1]? = W2.heap[w.heap.size + 1]? → W3.heap[w.heap.size]? = W2.heap[w.heap.size]? →
          (Instr.endRound (w.heap.size + 1) jump).run Try.prog W3 = .ok (.bool jump.isNone) (W3.putObj (w.heap.size + 1) (.loop (rc (if jump.isNone then .ready else .done) jump))) ∧
          (W3.putObj (w.heap.size + 1) (.loop (rc (if jump.isNone then .ready else .done) jump))).heap[w.heap.size + 1]? = some (.loop (rc (if jump.isNone then .ready else .done) jump)) ∧
          (W3.putObj (w.heap.size + 1) (.loop (rc (if jump.isNone then .ready else .done) jump))).heap[w.heap.size]? = some (.deferred (some [])) := fun jump W3 k1 k2 => by
        have hl3 := k1.trans hl2
        have hr := run_endRound (P := Try.prog) jump hl3
        refine ⟨by rw [hrc] at hr ⊢; exact hr, World.putObj_heap_same (Array.getElem?_eq_some_iff.1 hl3).1, (World.putObj_heap_other (by omega)).trans (k2.trans hd2)⟩
      rintro e a3 W3 hb3
      cases e with
      | normal =>
        obtain ⟨k1, k2, k3, k4⟩ := hb3
        obtain ⟨hr, hl4, hd4⟩ := fin none W3 k1 k2
        refine ⟨_, _, hr, .inl ⟨rfl, ⟨hI _ _ _ k4 (turns_put (TurnsIn.refl _ W3) (.inr (.inr rfl)) _), hl4, hd4⟩, ?_⟩⟩
        rw [World.putObj_heap_other hne.1, k3, t2.block Bx (by have := t1.size; have := hBl; omega) hne.1, t1.block Bx (by omega) (fun h => h)]
      | ret =>
        obtain ⟨k1, k2, k4⟩ := hb3
        obtain ⟨hr, hl4, hd4⟩ := fin (some .ret) W3 k1 k2
        exact ⟨_, _, hr, .inr ⟨rfl, hX _ _ k4 (turns_put (TurnsIn.refl _ W3) (.inr (.inr rfl)) _), hl4, hd4⟩⟩
      | exit id => exact hb3.elim
      | goto t => exact hb3.elim
      | panic ch => exact hb3.elim
      | outgrown => exact hb3.elim
    | ret => exact he.elim
    | exit id => exact he.elim
    | goto t => exact he.elim
    | panic ch => exact he.elim
    | outgrown => exact he.elim
  · rintro e W2 ⟨⟨v, rfl⟩, ⟨h1, h2, h3⟩ | ⟨pre, h1, h2, h3⟩⟩
    · have hr := run_endLoop (P := Try.prog) h2 (by rw [hrc]; simp)
      refine ⟨none, _, by rw [hrc] at hr; exact hr, hdone _ (hI _ _ _ h1 (turns_put (TurnsIn.refl _ W2) (.inr (.inr rfl)) _)) ((World.putObj_heap_other (by omega)).trans h3)⟩
    · have hr := run_endLoop (P := Try.prog) h2 (by rw [hrc]; simp)
      refine ⟨some .ret, _, by rw [hrc] at hr; exact hr, hstop _ (hX _ _ h1 (turns_put (TurnsIn.refl _ W2) (.inr (.inr rfl)) _)) ((World.putObj_heap_other (by omega)).trans h3)⟩
end Go.Proofs.Ytngeemfcmoahoaa.Tv

namespace Go.Proofs.Ytngeemfcmoahoaa.Tv
open Go.ChangeShapes Go.WideShapes Go.ChangeAt Go.RowKit Go.Shelf Go.Proofs.Ytngeemfcmoahoaa.Kit Go.Proofs.Ytngeemfcmoahoaa.Tx Go.Proofs.Ytngeemfcmoahoaa.Ty Go.Proofs.Ytngeemfcmoahoaa.Tz
attribute [local go_sem] Oper.semAt_some

/-- Where the answers lie. -/
structure ResAt (W : World) (b : Nat) (c0 c1 c2 : Int) (vs vi : Value) (v : Int) (va : Value) (n e : Int) : Prop where
  d : Block W b 29 #[.int .i64 c0, .int .i64 c1, .int .i64 c2]
  s : Block W (b + 1) 22 #[vs]
  i : Block W (b + 2) 22 #[vi]
  v : Block W (b + 3) 30 #[.int .u64 v]
  a : Block W (b + 4) 31 #[va]
  n : Block W (b + 5) 3 #[.int .i64 n]
  e : Block W (b + 6) 32 #[.int .i64 e]
theorem ResAt.out {S : Nat → Prop} {W W' : World} {b : Nat} {c0 c1 c2 : Int} {vs vi : Value} {v : Int} {va : Value} {n e : Int} (h : ResAt W b c0 c1 c2 vs vi v va n e) (t : TurnsIn S W W') (hS : ∀ x, S x → x < b ∨ b + 7 ≤ x) : ResAt W' b c0 c1 c2 vs vi v va n e :=
  ⟨h.d.out t (fun hx => by have := hS _ hx; omega), h.s.out t (fun hx => by have := hS _ hx; omega), h.i.out t (fun hx => by have := hS _ hx; omega), h.v.out t (fun hx => by have := hS _ hx; omega), h.a.out t (fun hx => by have := hS _ hx; omega), h.n.out t (fun hx => by have := hS _ hx; omega), h.e.out t (fun hx => by have := hS _ hx; omega)⟩
theorem PAt.rest {S : Nat → Prop} {w w' : World} {B g : Nat} {p : PS} {vs vi va : Value} {es : List (ActV × Value)} (h : PAt w B g p vs vi va es) (t : TurnsIn S w w') (hS : ∀ x, S x → x < B ∧ x ≠ g) : PAt w' B g p vs vi va es :=
  ⟨h.blk.out t (fun hx => (hS _ hx).2 rfl), h.os.out t (fun x hx hs => by have := (h.os.lt x hx).1; have := (hS x hs).1; omega), h.oi.out t (fun x hx hs => by have := (h.oi.lt x hx).1; have := (hS x hs).1; omega), h.oa.out t (fun x hx hs => by have := (h.oa.lt x hx).1; have := (hS x hs).1; omega), h.al, fun y hy => (h.ds y hy).out t (fun x hx hs => by have := ((h.ds y hy).lt x hx).1; have := (hS x hs).1; omega)⟩
def ParseTo (s : ByteArray) (w : World) (e : Ending) (w' : World) : Prop :=
  Below w.heap.size w w' ∧ match parseL (numsOf s) with
  | .error (n, k) => e = .returned (.tuple #[.agg #[.int .i64 0, .int .i64 0, .int .i64 0], .slice none 0 0, .slice none 0 0, .int .u64 0, .slice none 0 0, .int .i64 n, .int .i64 k])
  | .ok p => ∃ vs vi va es, e = .returned (.tuple #[.agg #[.int .i64 p.c0, .int .i64 p.c1, .int .i64 p.c2], vs, vi, .int .u64 p.v, va, .int .i64 0, .int .i64 0]) ∧ Kit.Own w' w.heap.size 5 .u8 vs p.sd ∧ Kit.Own w' w.heap.size 5 .u8 vi p.im ∧ OwnE w' w.heap.size va es ∧ es.map Prod.fst = p.al ∧ ∀ x ∈ es, Kit.Own w' w.heap.size 5 .u8 x.2 x.1.d
/-- What the answers' cells come to. -/
theorem ResAt.told {W : World} {b : Nat} {c0 c1 c2 : Int} {vs vi : Value} {v : Int} {va : Value} {n e : Int} (h : ResAt W b c0 c1 c2 vs vi v va n e) (tmps : Array Value) (h2 : tmps[2]? = some (.pointer (some ⟨b, 0, none⟩))) (h3 : tmps[3]? = some (.pointer (some ⟨b + 1, 0, none⟩))) (h4 : tmps[4]? = some (.pointer (some ⟨b + 2, 0, none⟩))) (h5 : tmps[5]? = some (.pointer (some ⟨b + 3, 0, none⟩))) (h6 : tmps[6]? = some (.pointer (some ⟨b + 4, 0, none⟩))) (h7 : tmps[7]? = some (.pointer (some ⟨b + 5, 0, none⟩))) (h8 : tmps[8]? = some (.pointer (some ⟨b + 6, 0, none⟩))) :
    (results Try.f10 tmps).run Try.prog W = .ok (.tuple #[.agg #[.int .i64 c0, .int .i64 c1, .int .i64 c2], vs, vi, .int .u64 v, va, .int .i64 n, .int .i64 e]) W := by
  have d0 : W.cell? ⟨b, 0, none⟩ = some (.int .i64 c0) := h.d.cell 0
  have d1 : W.cell? ⟨b, 1, none⟩ = some (.int .i64 c1) := h.d.cell 1
  have d2 : W.cell? ⟨b, 2, none⟩ = some (.int .i64 c2) := h.d.cell 2
  have e1 : W.cell? ⟨b + 1, 0, none⟩ = some vs := h.s.cell 0
  have e2 : W.cell? ⟨b + 2, 0, none⟩ = some vi := h.i.cell 0
  have e3 : W.cell? ⟨b + 3, 0, none⟩ = some (.int .u64 v) := h.v.cell 0
  have e4 : W.cell? ⟨b + 4, 0, none⟩ = some va := h.a.cell 0
  have e5 : W.cell? ⟨b + 5, 0, none⟩ = some (.int .i64 n) := h.n.cell 0
  have e6 : W.cell? ⟨b + 6, 0, none⟩ = some (.int .i64 e) := h.e.cell 0
  unfold results
  rw [Try.results10]
  simp [go_sem, h2, h3, h4, h5, h6, h7, h8, d0, d1, d2, e1, e2, e3, e4, e5, e6]

theorem count_nums (s : ByteArray) : (numsOf s).count 10 = Lib.countByte s.data.toList 10 := by
  unfold numsOf Lib.countByte
  rw [List.count, List.count, List.countP_map]
  congr 1
  funext b
  simp only [Function.comp]
  rw [Bool.eq_iff_iff, beq_iff_eq, beq_iff_eq]
  constructor
  · intro h
    apply UInt8.toNat.inj
    exact Int.ofNat.inj h
  · rintro rfl
    rfl
/-- Between two rounds; where a round has said that it is enough. -/
def InP (w : World) (pre : List (List Int × Bool)) (W : World) : Prop :=
  ResAt W w.heap.size 0 0 0 (.slice none 0 0) (.slice none 0 0) 0 (.slice none 0 0) 0 0 ∧ Below w.heap.size w W ∧ ∃ m p vs vi va es, runL pre = .ok (m, p) ∧ PAt W (w.heap.size + 11) (w.heap.size + 7) p vs vi va es
def OutP (s : ByteArray) (w : World) (W : World) : Prop :=
  ∃ n k, runL (linesL (numsOf s)) = .error (n, k) ∧ ResAt W w.heap.size 0 0 0 (.slice none 0 0) (.slice none 0 0) 0 (.slice none 0 0) n k ∧ Below w.heap.size w W
theorem InP.turn {w : World} {pre : List (List Int × Bool)} {A B : World} (h : InP w pre A) {S : Nat → Prop} (t : TurnsIn S A B) (hS : ∀ x, S x → w.heap.size + 8 ≤ x ∧ x ≤ w.heap.size + 10) : InP w pre B := by
  obtain ⟨h1, h2, m, p, vs, vi, va, es, h3, h4⟩ := h
  exact ⟨h1.out t (fun x hx => by have := hS x hx; omega), h2.trans (t.toBelow h2.size (fun x hb hx => by have := hS x hx; omega)), m, p, vs, vi, va, es, h3, h4.rest t (fun x hx => by have := hS x hx; omega)⟩
theorem OutP.turn {s : ByteArray} {w : World} {A B : World} (h : OutP s w A) {S : Nat → Prop} (t : TurnsIn S A B) (hS : ∀ x, S x → w.heap.size + 8 ≤ x ∧ x ≤ w.heap.size + 10) : OutP s w B := by
  obtain ⟨n, k, h1, h2, h3⟩ := h
  exact ⟨n, k, h1, h2.out t (fun x hx => by have := hS x hx; omega), h3.trans (t.toBelow h3.size (fun x hb hx => by have := hS x hx; omega))⟩
theorem stepL_line (m : Nat) (p : PS) (x : List Int × Bool) : stepL (.ok (m, p)) x = match lineR p x.1 x.2 with
    | .error k => .error (m + 1, k)
    | .ok q => .ok (m + 1, q) := by
  obtain ⟨t, b⟩ := x
  unfold lineR
  cases b with
  | false => rfl
  | true =>
    simp only [stepL]
    rw [if_neg (by decide), if_neg (by decide)]
    cases lineL p t <;> rfl
theorem fieldsP_k {ws : List (List Int)} {p : PS} {k : Int} (h : beginP p ws = .error k) : k = 3 ∨ k = 21 := by
  unfold beginP at h
  split at h
  · split at h
    · cases h; exact .inl rfl
    · cases h
  · cases h; exact .inr rfl
theorem lineR_k {p : PS} {t : List Int} {b : Bool} {k : Int} (h : lineR p t b = .error k) : k = 22 ∨ k = 21 ∨ k = 3 := by
  unfold lineR at h
  split at h
  · cases h; exact .inl rfl
  · unfold lineL at h
    split at h
    · cases h
    · split at h
      · rcases fieldsP_k h with h | h
        · exact .inr (.inr h)
        · exact .inr (.inl h)
      · cases ha : actL t with
        | error e =>
          rw [ha] at h
          have h : (Except.error e : Except Int PS) = .error k := h
          cases h
          unfold actL at ha
          split at ha
          · cases ha; exact .inr (.inl rfl)
          · split at ha
            · cases ha; exact .inr (.inr rfl)
            · cases ha
        | ok a => rw [ha] at h; cases h
theorem lineR_al {p q : PS} {t : List Int} {b : Bool} (h : lineR p t b = .ok q) : q.al.length ≤ p.al.length + 1 := by
  unfold lineR at h
  split at h
  · cases h
  · unfold lineL at h
    split at h
    · cases h; omega
    · split at h
      · unfold beginP at h
        split at h
        · split at h
          · cases h
          · cases h; simp
        · cases h
      · cases ha : actL t with
        | error e => rw [ha] at h; cases h
        | ok a =>
          rw [ha] at h
          have h : (Except.ok { p with al := p.al ++ [a] } : Except Int PS) = .ok q := h
          cases h
          simp
theorem runL_al' : ∀ (xs : List (List Int × Bool)) (m : Nat) (q : PS) (n : Nat) (p : PS), xs.foldl stepL (.ok (m, q)) = .ok (n, p) → p.al.length ≤ q.al.length + xs.length
  | [], m, q, n, p, h => by injection h with h; injection h with h1 h2; subst h2; simp
  | x :: xs, m, q, n, p, h => by
    rw [List.foldl_cons, stepL_line] at h
    cases hl : lineR q x.1 x.2 with
    | error k =>
      rw [hl] at h
      have h : xs.foldl stepL (.error (m + 1, k)) = .ok (n, p) := h
      rw [stepL_error] at h
      cases h
    | ok q2 =>
      rw [hl] at h
      have := runL_al' xs (m + 1) q2 n p h
      have := lineR_al hl
      simp
      omega
theorem runL_al {xs : List (List Int × Bool)} {n : Nat} {p : PS} (h : runL xs = .ok (n, p)) : p.al.length ≤ xs.length := by
  have := runL_al' xs 0 zeroP n p h
  have e : zeroP.al.length = 0 := rfl
  omega
theorem ResAt.stored {W : World} {b : Nat} {c0 c1 c2 : Int} {vs vi : Value} {v : Int} {va : Value} {n e : Int} (h : ResAt W b c0 c1 c2 vs vi v va n e) (d0 d1 d2 : Int) (us ui : Value) (u : Int) (ua : Value) (m f : Int) :
    ResAt (((((((((W.setCell ⟨b, 0, none⟩ (.int .i64 d0)).setCell ⟨b, 1, none⟩ (.int .i64 d1)).setCell ⟨b, 2, none⟩ (.int .i64 d2)).setCell ⟨b + 1, 0, none⟩ us).setCell ⟨b + 1 + 1, 0, none⟩ ui).setCell ⟨b + 1 + 1 + 1, 0, none⟩ (.int .u64 u)).setCell ⟨b + 1 + 1 + 1 + 1, 0, none⟩ ua).setCell ⟨b + 1 + 1 + 1 + 1 + 1, 0, none⟩ (.int .i64 m)).setCell ⟨b + 1 + 1 + 1 + 1 + 1 + 1, 0, none⟩ (.int .i64 f)) b d0 d1 d2 us ui u ua m f ∧
    TurnsIn (fun x => b ≤ x ∧ x < b + 7) W (((((((((W.setCell ⟨b, 0, none⟩ (.int .i64 d0)).setCell ⟨b, 1, none⟩ (.int .i64 d1)).setCell ⟨b, 2, none⟩ (.int .i64 d2)).setCell ⟨b + 1, 0, none⟩ us).setCell ⟨b + 1 + 1, 0, none⟩ ui).setCell ⟨b + 1 + 1 + 1, 0, none⟩ (.int .u64 u)).setCell ⟨b + 1 + 1 + 1 + 1, 0, none⟩ ua).setCell ⟨b + 1 + 1 + 1 + 1 + 1, 0, none⟩ (.int .i64 m)).setCell ⟨b + 1 + 1 + 1 + 1 + 1 + 1, 0, none⟩ (.int .i64 f)) := by
  have far : ∀ {W : World} {g : Nat} {t : TypeId} {cs : Array Value} (h : Block W g t cs) (j i : Nat) (x : Value), g ≠ j → Block (W.setCell ⟨j, i, none⟩ x) g t cs := fun h j i x hg => h.far (p := ⟨j, i, none⟩) hg x
  refine ⟨⟨?_, ?_, ?_, ?_, ?_, ?_, ?_⟩, ?_⟩
  · exact far (far (far (far (far (far (((h.d.set_ 0 (.int .i64 d0)).set_ 1 (.int .i64 d1)).set_ 2 (.int .i64 d2)) _ _ _ (by omega)) _ _ _ (by omega)) _ _ _ (by omega)) _ _ _ (by omega)) _ _ _ (by omega)) _ _ _ (by omega)
  · exact far (far (far (far (far ((far (far (far h.s _ 0 _ (by omega)) _ 1 _ (by omega)) _ 2 _ (by omega)).set_ 0 us) _ _ _ (by omega)) _ _ _ (by omega)) _ _ _ (by omega)) _ _ _ (by omega)) _ _ _ (by omega)
  · exact far (far (far (far ((far (far (far (far h.i _ 0 _ (by omega)) _ 1 _ (by omega)) _ 2 _ (by omega)) _ _ _ (by omega)).set_ 0 ui) _ _ _ (by omega)) _ _ _ (by omega)) _ _ _ (by omega)) _ _ _ (by omega)
  · exact far (far (far ((far (far (far (far (far h.v _ 0 _ (by omega)) _ 1 _ (by omega)) _ 2 _ (by omega)) _ _ _ (by omega)) _ _ _ (by omega)).set_ 0 (.int .u64 u)) _ _ _ (by omega)) _ _ _ (by omega)) _ _ _ (by omega)
  · exact far (far ((far (far (far (far (far (far h.a _ 0 _ (by omega)) _ 1 _ (by omega)) _ 2 _ (by omega)) _ _ _ (by omega)) _ _ _ (by omega)) _ _ _ (by omega)).set_ 0 ua) _ _ _ (by omega)) _ _ _ (by omega)
  · exact far ((far (far (far (far (far (far (far h.n _ 0 _ (by omega)) _ 1 _ (by omega)) _ 2 _ (by omega)) _ _ _ (by omega)) _ _ _ (by omega)) _ _ _ (by omega)) _ _ _ (by omega)).set_ 0 (.int .i64 m)) _ _ _ (by omega)
  · exact (far (far (far (far (far (far (far (far h.e _ 0 _ (by omega)) _ 1 _ (by omega)) _ 2 _ (by omega)) _ _ _ (by omega)) _ _ _ (by omega)) _ _ _ (by omega)) _ _ _ (by omega)) _ _ _ (by omega)).set_ 0 (.int .i64 f)
  · have st : ∀ {A : World} (t : TurnsIn (fun x => b ≤ x ∧ x < b + 7) W A) (j i : Nat) (x : Value), b ≤ j ∧ j < b + 7 → TurnsIn (fun x => b ≤ x ∧ x < b + 7) W (A.setCell ⟨j, i, none⟩ x) := fun t j i x hj => t.setCell (p := ⟨j, i, none⟩) (.inl hj) x
    exact st (st (st (st (st (st (st (st (st (TurnsIn.refl _ W) _ _ _ (by omega)) _ _ _ (by omega)) _ _ _ (by omega)) _ _ _ (by omega)) _ _ _ (by omega)) _ _ _ (by omega)) _ _ _ (by omega)) _ _ _ (by omega)) _ _ _ (by omega)
theorem ResAt.mark {W : World} {b D : Nat} {c0 c1 c2 : Int} {vs vi : Value} {v : Int} {va : Value} {n e : Int} (h : ResAt W b c0 c1 c2 vs vi v va n e) (hD : b + 7 ≤ D) : ResAt (W.putObj D (.deferred none)) b c0 c1 c2 vs vi v va n e :=
  h.out (turns_put (S := fun x => x = D) (TurnsIn.refl _ W) rfl (.deferred none)) (fun x hx => by omega)
theorem below_mark {W0 W : World} {B D : Nat} (h : Below B W0 W) (hD : B ≤ D) (hs : B ≤ W.heap.size) : Below B W0 (W.putObj D (.deferred none)) :=
  h.trans ((turns_put (S := fun x => x = D) (TurnsIn.refl _ W) rfl (.deferred none)).toBelow hs (fun x hb hx => by omega))
theorem PAt.mark {W : World} {B g D : Nat} {p : PS} {vs vi va : Value} {es : List (ActV × Value)} (h : PAt W B g p vs vi va es) (hD : D < B ∧ D ≠ g) : PAt (W.putObj D (.deferred none)) B g p vs vi va es :=
  h.rest (turns_put (S := fun x => x = D) (TurnsIn.refl _ W) rfl (.deferred none)) (fun x hx => by subst hx; exact hD)
theorem OwnE.mono {w : World} {B B' : Nat} {v : Value} {es : List (ActV × Value)} (h : OwnE w B v es) (hb : B' ≤ B) : OwnE w B' v es := by
  rcases h.2 with h0 | ⟨g, cap, cur, e, hbg, hg, hr⟩
  · exact ⟨h.1, .inl h0⟩
  · exact ⟨h.1, .inr ⟨g, cap, cur, e, Nat.le_trans hb hbg, hg, hr⟩⟩
theorem ParseTo.yes {s : ByteArray} {w W : World} {p : PS} (h : parseL (numsOf s) = .ok p) (hb : Below w.heap.size w W) {B g : Nat} {vs vi va : Value} {es : List (ActV × Value)} (hP : PAt W B g p vs vi va es) (hB : w.heap.size ≤ B) :
    ParseTo s w (.returned (.tuple #[.agg #[.int .i64 p.c0, .int .i64 p.c1, .int .i64 p.c2], vs, vi, .int .u64 p.v, va, .int .i64 0, .int .i64 0])) W := by
  unfold ParseTo
  rw [h]
  exact ⟨hb, vs, vi, va, es, rfl, hP.os.mono hB, hP.oi.mono hB, hP.oa.mono hB, hP.al, fun x hx => (hP.ds x hx).mono hB⟩
theorem ParseTo.no {s : ByteArray} {w w' : World} {n k : Int} {m : Nat} (hm : n = m) (h : parseL (numsOf s) = .error (m, k)) (hb : Below w.heap.size w w') : ParseTo s w (.returned (.tuple #[.agg #[.int .i64 0, .int .i64 0, .int .i64 0], .slice none 0 0, .slice none 0 0, .int .u64 0, .slice none 0 0, .int .i64 n, .int .i64 k])) w' := by
  unfold ParseTo
  rw [h, hm]
  exact ⟨hb, rfl⟩
/-- The cells at the beginning. -/
theorem res_new (w : World) (n e : Int) : ResAt (((((((w.alloc (.cells #[.int .i64 0, .int .i64 0, .int .i64 0] 29)).alloc (.cells #[.slice none 0 0] 22)).alloc (.cells #[.slice none 0 0] 22)).alloc (.cells #[.int .u64 0] 30)).alloc (.cells #[.slice none 0 0] 31)).alloc (.cells #[.int .i64 n] 3)).alloc (.cells #[.int .i64 e] 32)) w.heap.size 0 0 0 (.slice none 0 0) (.slice none 0 0) 0 (.slice none 0 0) n e := by
  have key : ∀ (W : World) (o : Obj) (t : TypeId) (cs : Array Value), o = .cells cs t → Block (W.alloc o) W.heap.size t cs := fun W o t cs h => by rw [h]; exact Block.new W t cs
  refine ⟨?_, ?_, ?_, ?_, ?_, ?_, ?_⟩
  · exact (((((((Block.new w _ _).alloc _).alloc _).alloc _).alloc _).alloc _).alloc _)
  · have h := Block.new (w.alloc (.cells #[.int .i64 0, .int .i64 0, .int .i64 0] 29)) 22 #[.slice none 0 0]
    simp only [World.size_alloc] at h
    exact ((((h.alloc _).alloc _).alloc _).alloc _).alloc _
  · have h := Block.new ((w.alloc (.cells #[.int .i64 0, .int .i64 0, .int .i64 0] 29)).alloc (.cells #[.slice none 0 0] 22)) 22 #[.slice none 0 0]
    simp only [World.size_alloc] at h
    exact (((h.alloc _).alloc _).alloc _).alloc _
  · have h := Block.new (((w.alloc (.cells #[.int .i64 0, .int .i64 0, .int .i64 0] 29)).alloc (.cells #[.slice none 0 0] 22)).alloc (.cells #[.slice none 0 0] 22)) 30 #[.int .u64 0]
    simp only [World.size_alloc] at h
    exact ((h.alloc _).alloc _).alloc _
  · have h := Block.new ((((w.alloc (.cells #[.int .i64 0, .int .i64 0, .int .i64 0] 29)).alloc (.cells #[.slice none 0 0] 22)).alloc (.cells #[.slice none 0 0] 22)).alloc (.cells #[.int .u64 0] 30)) 31 #[.slice none 0 0]
    simp only [World.size_alloc] at h
    exact (h.alloc _).alloc _
  · have h := Block.new (((((w.alloc (.cells #[.int .i64 0, .int .i64 0, .int .i64 0] 29)).alloc (.cells #[.slice none 0 0] 22)).alloc (.cells #[.slice none 0 0] 22)).alloc (.cells #[.int .u64 0] 30)).alloc (.cells #[.slice none 0 0] 31)) 3 #[.int .i64 n]
    simp only [World.size_alloc] at h
    exact h.alloc _
  · have h := Block.new ((((((w.alloc (.cells #[.int .i64 0, .int .i64 0, .int .i64 0] 29)).alloc (.cells #[.slice none 0 0] 22)).alloc (.cells #[.slice none 0 0] 22)).alloc (.cells #[.int .u64 0] 30)).alloc (.cells #[.slice none 0 0] 31)).alloc (.cells #[.int .i64 n] 3)) 32 #[.int .i64 e]
    simp only [World.size_alloc] at h
    exact h

set_option maxRecDepth 100000 in
set_option maxHeartbeats 12800000 in
theorem parse_any (s : ByteArray) (w : World) (hs : s.size ≤ 1000000) : Calls Try.prog 10 #[.string s] w (ParseTo s w) := by
  have d0 : decide ((1048576 : Int) < (s.size : Int)) = false := decide_eq_false (by omega)
  have d0' : decide (1048576 < s.size) = false := decide_eq_false (by omega)
  have GC := Lib.hid (fun W => count_any s 10 W)
  have GL := Lib.hid (fun W => lines_any s W)
  obtain ⟨W7, hW7⟩ : ∃ W7, (((((((w.alloc (.cells #[.int .i64 0, .int .i64 0, .int .i64 0] 29)).alloc (.cells #[.slice none 0 0] 22)).alloc (.cells #[.slice none 0 0] 22)).alloc (.cells #[.int .u64 0] 30)).alloc (.cells #[.slice none 0 0] 31)).alloc (.cells #[.int .i64 0] 3)).alloc (.cells #[.int .i64 0] 32)) = W7 := ⟨_, rfl⟩
  have R7 := Lib.hid (show ResAt W7 w.heap.size 0 0 0 (.slice none 0 0) (.slice none 0 0) 0 (.slice none 0 0) 0 0 by rw [← hW7]; exact res_new w 0 0)
  have S7 : W7.heap.size = w.heap.size + 7 := by rw [← hW7]; simp
  have B7 := Lib.hid (show Below w.heap.size w W7 by rw [← hW7]; exact TurnsIn.toBelow (S := fun _ => False) (((((((((TurnsIn.refl _ w).alloc _).alloc _).alloc _).alloc _).alloc _).alloc _).alloc _)) (Nat.le_refl _) (fun _ _ h => h))
  have HW7 := Lib.hid hW7
  have HS7 := Lib.hid S7
  clear hW7 S7
  by_cases hc : 1000 < Lib.countByte s.data.toList 10
  · have d1 : decide ((1000 : Int) < (Lib.countByte s.data.toList 10 : Int)) = true := decide_eq_true (by omega)
    have d1' : decide (1000 < Lib.countByte s.data.toList 10) = true := decide_eq_true hc
    have HP := Lib.hid (show parseL (numsOf s) = .error (0, 4) by unfold parseL; rw [if_pos (.inr (by rw [count_nums]; exact hc))])
    clear hc
    refine (callsIn_wide (n := 4)).1 ?_
    refine callsIn_of_wp_marks Try.func10 rfl trivial ?_ rfl
    simp only [Try.ntmps10, List.size_toArray, List.length_cons, List.length_nil, Nat.reduceAdd, Nat.reduceSub, Array.replicate_succ, Array.replicate_zero, List.push_toArray, List.append_toArray, List.nil_append, List.cons_append]
    gi_wp2_with (refine ⟨trivial, ?_⟩; gi_at_call 18; refine (callsIn_wide.2 (GC.out _)).mono ?_; rintro e w2 ⟨rfl, hw2⟩; have hw2' := hw2.symm; clear hw2; subst hw2')
    have hb9 : Below w.heap.size w (((((((w.alloc (.cells #[.int .i64 0, .int .i64 0, .int .i64 0] 29)).alloc (.cells #[.slice none 0 0] 22)).alloc (.cells #[.slice none 0 0] 22)).alloc (.cells #[.int .u64 0] 30)).alloc (.cells #[.slice none 0 0] 31)).alloc (.cells #[.int .i64 0] 3)).alloc (.cells #[.int .i64 4] 32)) := TurnsIn.toBelow (S := fun _ => False) (((((((((TurnsIn.refl _ w).alloc _).alloc _).alloc _).alloc _).alloc _).alloc _).alloc _)) (Nat.le_refl _) (fun _ _ h => h)
    exact ⟨_, (res_new w 0 4).told _ rfl rfl rfl rfl rfl rfl rfl, ParseTo.no rfl HP.out hb9⟩
  have d1 : decide ((1000 : Int) < (Lib.countByte s.data.toList 10 : Int)) = false := decide_eq_false (by omega)
  have d1' : decide (1000 < Lib.countByte s.data.toList 10) = false := decide_eq_false hc
  have HP := Lib.hid (show parseL (numsOf s) = match runL (linesL (numsOf s)) with
      | .error e => .error e
      | .ok (_, p) => if p.b = true then .ok p else .error (0, 3) by
    unfold parseL
    rw [if_neg (by rw [count_nums, numsOf_length]; omega)]
    rfl)
  clear hc
  refine (callsIn_wide (n := 4)).1 ?_
  refine callsIn_of_wp_marks Try.func10 rfl trivial ?_ rfl
  simp only [Try.ntmps10, List.size_toArray, List.length_cons, List.length_nil, Nat.reduceAdd, Nat.reduceSub, Array.replicate_succ, Array.replicate_zero, List.push_toArray, List.append_toArray, List.nil_append, List.cons_append]
  gi_wp2_with (first
    | (refine ⟨trivial, ?_⟩; gi_at_call 18; refine (callsIn_wide.2 (GC.out _)).mono ?_; rintro e w2 ⟨rfl, hw2⟩; have hw2' := hw2.symm; clear hw2; subst hw2')
    | (refine ⟨trivial, ?_⟩; gi_at_call 19; refine (callsIn_wide.2 (GL.out _)).mono ?_; rintro e w2 ⟨rfl, rfl⟩))
  rw [HW7.out]
  obtain ⟨W9, hW9⟩ : ∃ W9, ((W7.alloc (.cells #[.bool false, .int .i64 0, .int .i64 0, .int .i64 0, .slice none 0 0, .slice none 0 0, .int .u64 0, .slice none 0 0] 56)).alloc (.cells #[.string s] 9)) = W9 := ⟨_, rfl⟩
  have s8 : (W7.alloc (.cells #[.bool false, .int .i64 0, .int .i64 0, .int .i64 0, .slice none 0 0, .slice none 0 0, .int .u64 0, .slice none 0 0] 56)).heap.size = w.heap.size + 8 := by rw [World.size_alloc, HS7.out]
  have S9 : W9.heap.size = w.heap.size + 9 := by rw [← hW9, World.size_alloc, s8]
  have t79 : TurnsIn (fun _ => False) W7 W9 := by rw [← hW9]; exact ((TurnsIn.refl _ W7).alloc _).alloc _
  have x9 : Block W9 (w.heap.size + 8) 9 #[.string s] := by
    rw [← hW9, ← s8]
    exact Block.new _ _ _
  have p9 : Block W9 (w.heap.size + 7) 56 (cellsP false 0 0 0 (.slice none 0 0) (.slice none 0 0) 0 (.slice none 0 0)) := by
    rw [← hW9, ← HS7.out]
    exact (Block.new W7 _ _).alloc _
  have i9 : InP w [] W9 := ⟨R7.out.out t79 (fun _ h => h.elim), B7.out.trans (t79.toBelow B7.out.size (fun _ _ h => h)), 0, zeroP, _, _, _, [], rfl, p9, Own.nil _ _ _ _, Own.nil _ _ _ _, OwnE.nil _ _, rfl, fun x hx => by simp at hx⟩
  have HS9 := Lib.hid S9
  have HI9 := Lib.hid i9
  have HX9 := Lib.hid x9
  first | rw [hW9] | skip
  clear hW9 s8 t79 x9 p9 i9
  refine range_lines (n := 4) (Bx := w.heap.size + 8) (w := W9) (by omega) rfl HX9.out hs (InP w) (OutP s w) (fun pre A B h t => h.turn t (fun x hx => by have := HS9.out; omega)) (fun A B h t => h.turn t (fun x hx => by have := HS9.out; omega)) HI9.out ?round ?done ?stop
  case round =>
    rintro pre x W ⟨hres, hbel, m, p, vs, vi, va, es, hrun, hP⟩ hlt hp
    rw [HS9.out] at hlt ⊢
    have hlen := runL_count hrun
    have hal := runL_al hrun
    have hpl : pre.length + 1 ≤ (linesL (numsOf s)).length := by have := hp.length_le; simpa using this
    have hll := linesL_length (numsOf s)
    rw [numsOf_length] at hll
    have hes : es.length ≤ 1000000 := by
      have := congrArg List.length hP.al
      rw [List.length_map] at this
      omega
    have hmem : x ∈ linesL (numsOf s) := hp.subset (by simp)
    obtain ⟨hm1, hm2⟩ := linesL_mem _ x hmem
    rw [numsOf_length] at hm2
    have hox : Octets x.1 := fun c hc => numsOf_octets s c (hm1 c hc).1
    obtain ⟨sx, hsx⟩ : ∃ sx, strOfNums x.1 = sx := ⟨_, rfl⟩
    have hnx : numsOf sx = x.1 := by rw [← hsx]; exact nums_str hox
    have hsz : sx.size ≤ 1000000 := by rw [← numsOf_length, hnx]; omega
    have HRUN := Lib.hid (show runL (pre ++ [x]) = match lineR p (numsOf sx) x.2 with
        | .error k => .error (m + 1, k)
        | .ok q => .ok (m + 1, q) by rw [runL_snoc, hrun, stepL_line, hnx])
    obtain ⟨rest, hrest⟩ := hp
    have HREST := Lib.hid hrest
    rw [hsx]
    subst hlen
    have HRES := Lib.hid hres
    have HBEL := Lib.hid hbel
    have HPP := Lib.hid hP
    have hl8 : w.heap.size + 11 ≤ W.heap.size := by omega
    have x11 := Block.new W 61 #[.string sx, .bool x.2]
    have hta : TurnsIn (fun _ => False) W (W.alloc (.cells #[.string sx, .bool x.2] 61)) := (TurnsIn.refl _ W).alloc _
    have hsa : (W.alloc (.cells #[.string sx, .bool x.2] 61)).heap.size = W.heap.size + 1 := World.size_alloc _ _
    obtain ⟨Wa, hWa⟩ : ∃ Wa, W.alloc (.cells #[.string sx, .bool x.2] 61) = Wa := ⟨_, rfl⟩
    rw [hWa] at x11 hta hsa
    have HWA := Lib.hid hWa
    have HX11 := Lib.hid x11
    have HTA := Lib.hid hta
    have HSA := Lib.hid hsa
    clear hWa x11 hta hsa hrest hrun hal hpl hll hmem hm1 hm2 hox hsx hnx hres hbel hP
    gi_wp2
    rw [HWA.out]
    refine ⟨HTA.out, fun W2 t2 hL hD => ?_⟩
    have x2 := HX11.out.out t2 (by omega)
    have HL := Lib.hid hL
    have HD := Lib.hid hD
    have y0 : W2.cell? ⟨W.heap.size, 0, none⟩ = some (.string sx) := x2.cell 0
    have y1 : W2.cell? ⟨W.heap.size, 1, none⟩ = some (.bool x.2) := x2.cell 1
    have HX2 := Lib.hid x2
    have HR2 := Lib.hid ((HRES.out.out HTA.out (fun _ h => h.elim)).out t2 (fun y hy => by omega))
    have P2 := Lib.hid ((HPP.out.rest HTA.out (fun _ h => h.elim)).rest t2 (fun y hy => by omega))
    have HB2 := Lib.hid ((HBEL.out.trans (HTA.out.toBelow HBEL.out.size (fun _ _ h => h))).trans (t2.toBelow (B := w.heap.size) (by have := HSA.out; omega) (fun y hy h => by omega)))
    have hs2 : w.heap.size + 11 ≤ W2.heap.size := by have := t2.size; have := HSA.out; omega
    have GLN := Lib.hid (line_any (w.heap.size + 11) (w.heap.size + 7) p vs vi va es sx x.2 W2 hsz hes hs2 P2.out)
    have HT2 := Lib.hid t2
    clear t2 hL hD x2
    cases hlr : lineR p (numsOf sx) x.2 with
    | error k =>
      have hk := lineR_k hlr
      have dk : (k == 0) = false := by rw [beq_eq_false_iff_ne]; omega
      have HER := Lib.hid (show runL (linesL (numsOf s)) = .error (pre.length + 1, k) by
        have h : runL (pre ++ [x]) = .error (pre.length + 1, k) := by rw [HRUN.out, hlr]
        rw [← HREST.out]
        exact runL_error h _)
      have GE := Lib.hid (GLN.out.mono (R' := fun e w' => e = .returned (.int .i64 k) ∧ TurnsIn (fun x => x = w.heap.size + 7 ∨ va.ownBlock = some x) W2 w') (fun e w' h => by
        unfold LineQ at h
        rw [hlr] at h
        exact ⟨h.2, h.1⟩))
      clear hlr hk GLN HRUN HREST
      gi_wp2_with (refine ⟨trivial, ?_⟩; gi_at_call 20; refine (CallsIn.inRound (w.heap.size + 9 + 1) (callsIn_wide.2 GE.out)).mono ?_; rintro e W3 ⟨rfl, ht3⟩; have HT3 := Lib.hid ht3; have HR3 := Lib.hid (HR2.out.out ht3 (fun y hy => by
            rcases hy with hy | hy
            · omega
            · have := (P2.out.oa.lt y hy).1; omega)); have c0 : W3.cell? ⟨w.heap.size, 0, none⟩ = some (.int .i64 0) := HR3.out.d.cell 0; have z0 : W3.frozen? ⟨w.heap.size, 0, none⟩ = false := HR3.out.d.frozen 0; have c1 : W3.cell? ⟨w.heap.size, 1, none⟩ = some (.int .i64 0) := HR3.out.d.cell 1; have z1 : W3.frozen? ⟨w.heap.size, 1, none⟩ = false := HR3.out.d.frozen 1; have c2 : W3.cell? ⟨w.heap.size, 2, none⟩ = some (.int .i64 0) := HR3.out.d.cell 2; have z2 : W3.frozen? ⟨w.heap.size, 2, none⟩ = false := HR3.out.d.frozen 2; have c3 : W3.cell? ⟨w.heap.size + 1, 0, none⟩ = some (.slice none 0 0) := HR3.out.s.cell 0; have z3 : W3.frozen? ⟨w.heap.size + 1, 0, none⟩ = false := HR3.out.s.frozen 0; have c4 : W3.cell? ⟨w.heap.size + 1 + 1, 0, none⟩ = some (.slice none 0 0) := HR3.out.i.cell 0; have z4 : W3.frozen? ⟨w.heap.size + 1 + 1, 0, none⟩ = false := HR3.out.i.frozen 0; have c5 : W3.cell? ⟨w.heap.size + 1 + 1 + 1, 0, none⟩ = some (.int .u64 0) := HR3.out.v.cell 0; have z5 : W3.frozen? ⟨w.heap.size + 1 + 1 + 1, 0, none⟩ = false := HR3.out.v.frozen 0; have c6 : W3.cell? ⟨w.heap.size + 1 + 1 + 1 + 1, 0, none⟩ = some (.slice none 0 0) := HR3.out.a.cell 0; have z6 : W3.frozen? ⟨w.heap.size + 1 + 1 + 1 + 1, 0, none⟩ = false := HR3.out.a.frozen 0; have c7 : W3.cell? ⟨w.heap.size + 1 + 1 + 1 + 1 + 1, 0, none⟩ = some (.int .i64 0) := HR3.out.n.cell 0; have z7 : W3.frozen? ⟨w.heap.size + 1 + 1 + 1 + 1 + 1, 0, none⟩ = false := HR3.out.n.frozen 0; have c8 : W3.cell? ⟨w.heap.size + 1 + 1 + 1 + 1 + 1 + 1, 0, none⟩ = some (.int .i64 0) := HR3.out.e.cell 0; have z8 : W3.frozen? ⟨w.heap.size + 1 + 1 + 1 + 1 + 1 + 1, 0, none⟩ = false := HR3.out.e.frozen 0; clear ht3)
      obtain ⟨R4, t4⟩ := HR3.out.stored 0 0 0 (.slice none 0 0) (.slice none 0 0) 0 (.slice none 0 0) ((pre.length : Int) + 1) k
      have t23 := HT3.out
      have hs23 := t23.size
      have hva := P2.out.oa.lt
      refine ⟨?_, ?_, pre.length + 1, k, HER.out, R4, HB2.out.trans ((t23.toBelow (B := w.heap.size) HB2.out.size (fun y hy h => by
        rcases h with h | h
        · omega
        · have := (hva y h).1; omega)).trans (t4.toBelow (by omega) (fun y hy h => by omega)))⟩
      · exact (t4.block _ (by omega) (by omega)).trans (t23.block _ (by omega) (fun h => by
          rcases h with h | h
          · omega
          · have := (hva _ h).1; omega))
      · exact (t4.block _ (by omega) (by omega)).trans (t23.block _ (by omega) (fun h => by
          rcases h with h | h
          · omega
          · have := (hva _ h).1; omega))
    | ok q =>
      have HOK := Lib.hid (show runL (pre ++ [x]) = .ok (pre.length + 1, q) by rw [HRUN.out, hlr])
      have GE := Lib.hid (GLN.out.mono (R' := fun e w' => e = .returned (.int .i64 0) ∧ TurnsIn (fun x => x = w.heap.size + 7 ∨ va.ownBlock = some x) W2 w' ∧ ∃ vs vi va' es, PAt w' (w.heap.size + 11) (w.heap.size + 7) q vs vi va' es) (fun e w' h => by
        unfold LineQ at h
        rw [hlr] at h
        obtain ⟨h1, h2, vs', vi', va', es', h3, _⟩ := h
        exact ⟨h2, h1, vs', vi', va', es', h3⟩))
      clear hlr GLN HRUN HREST
      gi_wp2_with (refine ⟨trivial, ?_⟩; gi_at_call 20; refine (CallsIn.inRound (w.heap.size + 9 + 1) (callsIn_wide.2 GE.out)).mono ?_; rintro e W3 ⟨rfl, ht3, hp3⟩; have HT3 := Lib.hid ht3; have HP3 := Lib.hid hp3; have HR3 := Lib.hid (HR2.out.out ht3 (fun y hy => by
            rcases hy with hy | hy
            · omega
            · have := (P2.out.oa.lt y hy).1; omega)); clear ht3 hp3)
      have t23 := HT3.out
      have hva := P2.out.oa.lt
      obtain ⟨vs', vi', va', es', h3⟩ := HP3.out
      refine ⟨?_, ?_, ?_, HR3.out, HB2.out.trans (t23.toBelow (B := w.heap.size) HB2.out.size (fun y hy h => by
        rcases h with h | h
        · omega
        · have := (hva y h).1; omega)), pre.length + 1, q, vs', vi', va', es', HOK.out, h3⟩
      · exact t23.block _ (by omega) (fun h => by
          rcases h with h | h
          · omega
          · have := (hva _ h).1; omega)
      · exact t23.block _ (by omega) (fun h => by
          rcases h with h | h
          · omega
          · have := (hva _ h).1; omega)
      · exact t23.block _ (by omega) (fun h => by
          rcases h with h | h
          · omega
          · have := (hva _ h).1; omega)
  case done =>
    rintro W ⟨hres, hbel, m, p, vs, vi, va, es, hrun, hP⟩ hK
    rw [HS9.out] at hK ⊢
    have HRW := Lib.hid hres
    have HBW := Lib.hid hbel
    have HPW := Lib.hid hP
    have HK := Lib.hid hK
    have hKlt := (Array.getElem?_eq_some_iff.1 hK).1
    have c0 : W.cell? ⟨w.heap.size, 0, none⟩ = some (.int .i64 0) := HRW.out.d.cell 0; have z0 : W.frozen? ⟨w.heap.size, 0, none⟩ = false := HRW.out.d.frozen 0; have c1 : W.cell? ⟨w.heap.size, 1, none⟩ = some (.int .i64 0) := HRW.out.d.cell 1; have z1 : W.frozen? ⟨w.heap.size, 1, none⟩ = false := HRW.out.d.frozen 1; have c2 : W.cell? ⟨w.heap.size, 2, none⟩ = some (.int .i64 0) := HRW.out.d.cell 2; have z2 : W.frozen? ⟨w.heap.size, 2, none⟩ = false := HRW.out.d.frozen 2; have c3 : W.cell? ⟨w.heap.size + 1, 0, none⟩ = some (.slice none 0 0) := HRW.out.s.cell 0; have z3 : W.frozen? ⟨w.heap.size + 1, 0, none⟩ = false := HRW.out.s.frozen 0; have c4 : W.cell? ⟨w.heap.size + 1 + 1, 0, none⟩ = some (.slice none 0 0) := HRW.out.i.cell 0; have z4 : W.frozen? ⟨w.heap.size + 1 + 1, 0, none⟩ = false := HRW.out.i.frozen 0; have c5 : W.cell? ⟨w.heap.size + 1 + 1 + 1, 0, none⟩ = some (.int .u64 0) := HRW.out.v.cell 0; have z5 : W.frozen? ⟨w.heap.size + 1 + 1 + 1, 0, none⟩ = false := HRW.out.v.frozen 0; have c6 : W.cell? ⟨w.heap.size + 1 + 1 + 1 + 1, 0, none⟩ = some (.slice none 0 0) := HRW.out.a.cell 0; have z6 : W.frozen? ⟨w.heap.size + 1 + 1 + 1 + 1, 0, none⟩ = false := HRW.out.a.frozen 0; have c7 : W.cell? ⟨w.heap.size + 1 + 1 + 1 + 1 + 1, 0, none⟩ = some (.int .i64 0) := HRW.out.n.cell 0; have z7 : W.frozen? ⟨w.heap.size + 1 + 1 + 1 + 1 + 1, 0, none⟩ = false := HRW.out.n.frozen 0; have c8 : W.cell? ⟨w.heap.size + 1 + 1 + 1 + 1 + 1 + 1, 0, none⟩ = some (.int .i64 0) := HRW.out.e.cell 0; have z8 : W.frozen? ⟨w.heap.size + 1 + 1 + 1 + 1 + 1 + 1, 0, none⟩ = false := HRW.out.e.frozen 0
    have pb : W.cell? ⟨w.heap.size + 1 + 1 + 1 + 1 + 1 + 1 + 1, 0, none⟩ = some (.bool p.b) := hP.blk.cell 0
    cases hb : p.b with
    | false =>
      have HE := Lib.hid (show parseL (numsOf s) = .error (0, 3) by rw [HP.out, hrun]; simp only []; rw [if_neg (by rw [hb]; decide)])
      rw [hb] at pb
      clear hres hbel hP hK hrun hb
      gi_wp2
      obtain ⟨R4, t4⟩ := HRW.out.stored 0 0 0 (.slice none 0 0) (.slice none 0 0) 0 (.slice none 0 0) 0 3
      have hK4 := (t4.block (w.heap.size + 9) hKlt (by omega)).trans HK.out
      refine ⟨by simp, .inl ⟨_, _, rfl, run_takeDeferred hK4, ?_⟩⟩
      have hb4 := HBW.out.trans (t4.toBelow HBW.out.size (fun y hy h => by omega))
      exact ⟨_, (R4.mark (D := w.heap.size + 9) (by omega)).told _ rfl rfl rfl rfl rfl rfl rfl, ParseTo.no rfl HE.out (below_mark hb4 (by omega) hb4.size)⟩
    | true =>
      have HE := Lib.hid (show parseL (numsOf s) = .ok p by rw [HP.out, hrun]; simp only []; rw [if_pos hb])
      rw [hb] at pb
      have q1 : W.cell? ⟨w.heap.size + 1 + 1 + 1 + 1 + 1 + 1 + 1, 1, none⟩ = some (.int .i64 p.c0) := hP.blk.cell 1
      have q2 : W.cell? ⟨w.heap.size + 1 + 1 + 1 + 1 + 1 + 1 + 1, 2, none⟩ = some (.int .i64 p.c1) := hP.blk.cell 2
      have q3 : W.cell? ⟨w.heap.size + 1 + 1 + 1 + 1 + 1 + 1 + 1, 3, none⟩ = some (.int .i64 p.c2) := hP.blk.cell 3
      have q4 : W.cell? ⟨w.heap.size + 1 + 1 + 1 + 1 + 1 + 1 + 1, 4, none⟩ = some vs := hP.blk.cell 4
      have q5 : W.cell? ⟨w.heap.size + 1 + 1 + 1 + 1 + 1 + 1 + 1, 5, none⟩ = some vi := hP.blk.cell 5
      have q6 : W.cell? ⟨w.heap.size + 1 + 1 + 1 + 1 + 1 + 1 + 1, 6, none⟩ = some (.int .u64 p.v) := hP.blk.cell 6
      have q7 : W.cell? ⟨w.heap.size + 1 + 1 + 1 + 1 + 1 + 1 + 1, 7, none⟩ = some va := hP.blk.cell 7
      obtain ⟨A1, n1, c1', hv1⟩ : ∃ A n c, vs = .slice A n c := by obtain ⟨A, c, h, _⟩ := hP.os.opened; exact ⟨A, _, c, h⟩
      obtain ⟨A2, n2, c2', hv2⟩ : ∃ A n c, vi = .slice A n c := by obtain ⟨A, c, h, _⟩ := hP.oi.opened; exact ⟨A, _, c, h⟩
      obtain ⟨A3, n3, c3', hv3⟩ : ∃ A n c, va = .slice A n c := by obtain ⟨A, c, h, _⟩ := hP.oa.opened; exact ⟨A, _, c, h⟩
      subst hv1 hv2 hv3
      have hbb := hb
      clear hres hbel hP hK hrun hb
      gi_wp2
      have HBK := Lib.hid (show Block W (w.heap.size + 7) 56 (cellsP true p.c0 p.c1 p.c2 (.slice A1 n1 c1') (.slice A2 n2 c2') p.v (.slice A3 n3 c3')) by have := HPW.out.blk; rw [hbb] at this; exact this)
      clear q1 q2 q3 q4 q5 q6 q7 pb
      refine wpIn_wide.2 ?_
      refine wp_mono ?_ NoPan.to
      refine wp_region_held_drew (S := (fun W' : World => Block W' (w.heap.size + 7) 56 (cellsP true p.c0 p.c1 p.c2 (.slice A1 n1 c1') (.slice A2 n2 c2') p.v (.slice A3 n3 c3')))) (by kernel_rfl) (by exact HBK.out) (fun hS => ?_)
      refine wpAnyH_take (i := 0) (oi := ⟨some 37, _, _, _, _, _⟩) (v := .pointer (some ⟨w.heap.size + 1 + 1 + 1 + 1 + 1 + 1 + 1, 1, none⟩)) rfl (by kernel_rfl) (by kernel_rfl) (by kernel_rfl) (fun _ _ _ h => h) (Or.inl ⟨by rfl, fun W hW => by go_simp⟩) hS ?_
      try simp only [Act.put, List.setIfInBounds_toArray, List.set_cons_zero, List.set_cons_succ]
      refine wpAnyH_take (i := 2) (oi := ⟨some 39, _, _, _, _, _⟩) (v := .pointer (some ⟨w.heap.size + 1 + 1 + 1 + 1 + 1 + 1 + 1, 4, none⟩)) rfl (by kernel_rfl) (by kernel_rfl) (by kernel_rfl) (fun _ _ _ h => h) (Or.inl ⟨by rfl, fun W hW => by go_simp⟩) hS ?_
      try simp only [Act.put, List.setIfInBounds_toArray, List.set_cons_zero, List.set_cons_succ]
      refine wpAnyH_take (i := 4) (oi := ⟨some 41, _, _, _, _, _⟩) (v := .pointer (some ⟨w.heap.size + 1 + 1 + 1 + 1 + 1 + 1 + 1, 5, none⟩)) rfl (by kernel_rfl) (by kernel_rfl) (by kernel_rfl) (fun _ _ _ h => h) (Or.inl ⟨by rfl, fun W hW => by go_simp⟩) hS ?_
      try simp only [Act.put, List.setIfInBounds_toArray, List.set_cons_zero, List.set_cons_succ]
      refine wpAnyH_take (i := 6) (oi := ⟨some 43, _, _, _, _, _⟩) (v := .pointer (some ⟨w.heap.size + 1 + 1 + 1 + 1 + 1 + 1 + 1, 6, none⟩)) rfl (by kernel_rfl) (by kernel_rfl) (by kernel_rfl) (fun _ _ _ h => h) (Or.inl ⟨by rfl, fun W hW => by go_simp⟩) hS ?_
      try simp only [Act.put, List.setIfInBounds_toArray, List.set_cons_zero, List.set_cons_succ]
      refine wpAnyH_take (i := 8) (oi := ⟨some 45, _, _, _, _, _⟩) (v := .pointer (some ⟨w.heap.size + 1 + 1 + 1 + 1 + 1 + 1 + 1, 7, none⟩)) rfl (by kernel_rfl) (by kernel_rfl) (by kernel_rfl) (fun _ _ _ h => h) (Or.inl ⟨by rfl, fun W hW => by go_simp⟩) hS ?_
      try simp only [Act.put, List.setIfInBounds_toArray, List.set_cons_zero, List.set_cons_succ]
      refine wpAnyH_take (i := 1) (oi := ⟨some 38, _, _, _, _, _⟩) (v := .agg #[.int .i64 p.c0, .int .i64 p.c1, .int .i64 p.c2]) rfl (by kernel_rfl) (by kernel_rfl) (by kernel_rfl) (fun _ _ _ h => h) (Or.inl ⟨by rfl, fun W hW => by have k1 : W.cell? ⟨w.heap.size + 1 + 1 + 1 + 1 + 1 + 1 + 1, 1, none⟩ = some (.int .i64 p.c0) := hW.cell 1; have k2 : W.cell? ⟨w.heap.size + 1 + 1 + 1 + 1 + 1 + 1 + 1, 2, none⟩ = some (.int .i64 p.c1) := hW.cell 2; have k3 : W.cell? ⟨w.heap.size + 1 + 1 + 1 + 1 + 1 + 1 + 1, 3, none⟩ = some (.int .i64 p.c2) := hW.cell 3; go_simp⟩) hS ?_
      try simp only [Act.put, List.setIfInBounds_toArray, List.set_cons_zero, List.set_cons_succ]
      refine wpAnyH_take (i := 3) (oi := ⟨some 40, _, _, _, _, _⟩) (v := .slice A1 n1 c1') rfl (by kernel_rfl) (by kernel_rfl) (by kernel_rfl) (fun _ _ _ h => h) (Or.inl ⟨by rfl, fun W hW => by have k4 : W.cell? ⟨w.heap.size + 1 + 1 + 1 + 1 + 1 + 1 + 1, 4, none⟩ = some (.slice A1 n1 c1') := hW.cell 4; go_simp⟩) hS ?_
      try simp only [Act.put, List.setIfInBounds_toArray, List.set_cons_zero, List.set_cons_succ]
      refine wpAnyH_take (i := 5) (oi := ⟨some 42, _, _, _, _, _⟩) (v := .slice A2 n2 c2') rfl (by kernel_rfl) (by kernel_rfl) (by kernel_rfl) (fun _ _ _ h => h) (Or.inl ⟨by rfl, fun W hW => by have k5 : W.cell? ⟨w.heap.size + 1 + 1 + 1 + 1 + 1 + 1 + 1, 5, none⟩ = some (.slice A2 n2 c2') := hW.cell 5; go_simp⟩) hS ?_
      try simp only [Act.put, List.setIfInBounds_toArray, List.set_cons_zero, List.set_cons_succ]
      refine wpAnyH_take (i := 7) (oi := ⟨some 44, _, _, _, _, _⟩) (v := .int .u64 p.v) rfl (by kernel_rfl) (by kernel_rfl) (by kernel_rfl) (fun _ _ _ h => h) (Or.inl ⟨by rfl, fun W hW => by have k6 : W.cell? ⟨w.heap.size + 1 + 1 + 1 + 1 + 1 + 1 + 1, 6, none⟩ = some (.int .u64 p.v) := hW.cell 6; go_simp⟩) hS ?_
      try simp only [Act.put, List.setIfInBounds_toArray, List.set_cons_zero, List.set_cons_succ]
      refine wpAnyH_take (i := 9) (oi := ⟨some 46, _, _, _, _, _⟩) (v := .slice A3 n3 c3') rfl (by kernel_rfl) (by kernel_rfl) (by kernel_rfl) (fun _ _ _ h => h) (Or.inl ⟨by rfl, fun W hW => by have k7 : W.cell? ⟨w.heap.size + 1 + 1 + 1 + 1 + 1 + 1 + 1, 7, none⟩ = some (.slice A3 n3 c3') := hW.cell 7; go_simp⟩) hS ?_
      try simp only [Act.put, List.setIfInBounds_toArray, List.set_cons_zero, List.set_cons_succ]
      refine wpAnyH_ready (rs := [10]) (by kernel_rfl) (by simp) ?_
      refine AllReadyH.cons rfl (fun K hK => ?_) AllReadyH.nil
      go_simp
      have hB10 := (Block.far (Block.far (Block.far HBK.out (p := ⟨w.heap.size, 0, none⟩) (by simp <;> omega) (.int .i64 p.c0)) (p := ⟨w.heap.size, 1, none⟩) (by simp <;> omega) (.int .i64 p.c1)) (p := ⟨w.heap.size, 2, none⟩) (by simp <;> omega) (.int .i64 p.c2))
      refine hK.out _ _ (by exact hB10.drewN 1) (fun hS => ?_)
      clear hK K
      try simp only [Act.put, List.setIfInBounds_toArray, List.set_cons_zero, List.set_cons_succ]
      refine wpAnyH_ready (rs := [11]) (by kernel_rfl) (by simp) ?_
      refine AllReadyH.cons rfl (fun K hK => ?_) AllReadyH.nil
      go_simp
      have hB11 := (Block.far hB10 (p := ⟨w.heap.size + 1, 0, none⟩) (by simp <;> omega) (.slice A1 n1 c1'))
      refine hK.out _ _ (by exact hB11.drewN 1) (fun hS => ?_)
      clear hK K
      try simp only [Act.put, List.setIfInBounds_toArray, List.set_cons_zero, List.set_cons_succ]
      refine wpAnyH_ready (rs := [12]) (by kernel_rfl) (by simp) ?_
      refine AllReadyH.cons rfl (fun K hK => ?_) AllReadyH.nil
      go_simp
      have hB12 := (Block.far hB11 (p := ⟨w.heap.size + 1 + 1, 0, none⟩) (by simp <;> omega) (.slice A2 n2 c2'))
      refine hK.out _ _ (by exact hB12.drewN 1) (fun hS => ?_)
      clear hK K
      try simp only [Act.put, List.setIfInBounds_toArray, List.set_cons_zero, List.set_cons_succ]
      refine wpAnyH_ready (rs := [13]) (by kernel_rfl) (by simp) ?_
      refine AllReadyH.cons rfl (fun K hK => ?_) AllReadyH.nil
      go_simp
      have hB13 := (Block.far hB12 (p := ⟨w.heap.size + 1 + 1 + 1, 0, none⟩) (by simp <;> omega) (.int .u64 p.v))
      refine hK.out _ _ (by exact hB13.drewN 1) (fun hS => ?_)
      clear hK K
      try simp only [Act.put, List.setIfInBounds_toArray, List.set_cons_zero, List.set_cons_succ]
      refine wpAnyH_ready (rs := [14]) (by kernel_rfl) (by simp) ?_
      refine AllReadyH.cons rfl (fun K hK => ?_) AllReadyH.nil
      go_simp
      have hB14 := (Block.far hB13 (p := ⟨w.heap.size + 1 + 1 + 1 + 1, 0, none⟩) (by simp <;> omega) (.slice A3 n3 c3'))
      refine hK.out _ _ (by exact hB14.drewN 1) (fun hS => ?_)
      clear hK K
      try simp only [Act.put, List.setIfInBounds_toArray, List.set_cons_zero, List.set_cons_succ]
      refine wpAnyH_ready (rs := [15]) (by kernel_rfl) (by simp) ?_
      refine AllReadyH.cons rfl (fun K hK => ?_) AllReadyH.nil
      go_simp
      have hB15 := (Block.far hB14 (p := ⟨w.heap.size + 1 + 1 + 1 + 1 + 1, 0, none⟩) (by simp <;> omega) (.int .i64 0))
      refine hK.out _ _ (by exact hB15.drewN 1) (fun hS => ?_)
      clear hK K
      try simp only [Act.put, List.setIfInBounds_toArray, List.set_cons_zero, List.set_cons_succ]
      refine wpAnyH_ready (rs := [16]) (by kernel_rfl) (by simp) ?_
      refine AllReadyH.cons rfl (fun K hK => ?_) AllReadyH.nil
      go_simp
      have hB16 := (Block.far hB15 (p := ⟨w.heap.size + 1 + 1 + 1 + 1 + 1 + 1, 0, none⟩) (by simp <;> omega) (.int .i64 0))
      refine hK.out _ _ (by exact hB16.drewN 1) (fun hS => ?_)
      clear hK K
      try simp only [Act.put, List.setIfInBounds_toArray, List.set_cons_zero, List.set_cons_succ]
      refine wpAnyH_done (by kernel_rfl) ?_ _
      unfold NoPan
      gi_wp2
      obtain ⟨R4, t4⟩ := HRW.out.stored p.c0 p.c1 p.c2 (.slice A1 n1 c1') (.slice A2 n2 c2') p.v (.slice A3 n3 c3') 0 0
      have t5 := t4.drewN 1
      have hK4 := (t5.block (w.heap.size + 9) hKlt (by omega)).trans HK.out
      have b5 := HBW.out.trans (t5.toBelow HBW.out.size (fun y hy h => by omega))
      have P5 := HPW.out.rest t5 (fun x hx => by omega)
      have R5 := R4.out ((TurnsIn.refl (fun _ => False) _).drewN 1) (fun _ h => h.elim)
      refine ⟨by simp, .inl ⟨_, _, rfl, run_takeDeferred hK4, ?_⟩⟩
      exact ⟨_, (R5.mark (D := w.heap.size + 9) (by omega)).told _ rfl rfl rfl rfl rfl rfl rfl, ParseTo.yes HE.out (below_mark b5 (by omega) b5.size) (P5.mark (D := w.heap.size + 9) (by omega)) (by omega)⟩
  case stop =>
    rintro W ⟨n, k, hrun, hres, hbel⟩ hK
    rw [HS9.out] at hK ⊢
    have HE := Lib.hid (show parseL (numsOf s) = .error (n, k) by rw [HP.out, hrun])
    have hKlt := (Array.getElem?_eq_some_iff.1 hK).1
    have HK := Lib.hid hK
    have HRW := Lib.hid hres
    have HBW := Lib.hid hbel
    clear hres hbel hK
    gi_wp2
    refine ⟨by simp, .inl ⟨_, _, rfl, run_takeDeferred HK.out, ?_⟩⟩
    exact ⟨_, (HRW.out.mark (by omega)).told _ rfl rfl rfl rfl rfl rfl rfl, ParseTo.no rfl HE.out (below_mark HBW.out (by omega) HBW.out.size)⟩
end Go.Proofs.Ytngeemfcmoahoaa.Tv
