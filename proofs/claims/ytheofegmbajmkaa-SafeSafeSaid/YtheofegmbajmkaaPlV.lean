/-
  Layer 16, plan: Eval: contract. Conditions: as each theorem names.
-/
import Derived.Test.YtheofegmbajmkaaPlA
import Derived.LoopTactic
namespace Go.Proofs.Ytheofegmbajmkaa.Pl
open Go.ChangeShapes Go.WideShapes Go.ChangeAt Go.RowKit Go.Proofs.Ytheofegmbajmkaa.Kit

theorem right_facts {s : Stp} (h : rightS s = true) : (1 ≤ s.x ∧ s.x ≤ 4096) ∧ (s.a = 1 ∧ s.b = 0 ∧ (s.zs.length : Int) = s.x ∨ s.a = 2 ∧ (0 ≤ s.b ∧ s.b ≤ 2147483647) ∧ s.zs.length = 0 ∨ s.a = 3 ∧ (0 ≤ s.b ∧ s.b ≤ 2147483647) ∧ (s.zs.length : Int) = s.x) := of_decide_eq_true h

def stepV (s : Stp) : Value := .agg #[.int .u8 s.a, .int .i64 s.b, .int .i64 s.x, .slice s.A s.zs.length s.cap]

theorem made_ok (s : Stp) (v : Value) (src : Option (List Int)) (ys : List Int) (w : World) (hs : Src w v src) (hr : rightS s = true) (ho : Octets s.zs) (hz : Holds w w.heap.size .u8 s.A s.zs) (hm : madeO src s = some ys) :
    Calls Try.prog 36 #[stepV s, v] w (GivesH ys w) := by
  obtain ⟨a, n, x, A, c, zs⟩ := s
  have hf := right_facts hr
  simp only at hf ho hz
  unfold madeO at hm
  simp only at hm
  by_cases ha : a = 1
  · subst ha
    rw [if_pos rfl] at hm
    injection hm with hm
    subst hm
    exact made_lit n x A zs c v w hz
  · rw [if_neg ha] at hm
    cases src with
    | none => cases hm
    | some old =>
      simp only at hm
      by_cases hok : okRange old n x = true
      · rw [if_pos hok] at hm
        injection hm with hm
        subst hm
        obtain ⟨Ao, co, rfl, h1, h2, h3, h4, h5⟩ := hs
        have hk := of_decide_eq_true hok
        obtain ⟨f, rfl⟩ := Int.eq_ofNat_of_zero_le (show 0 ≤ n by omega)
        obtain ⟨k, rfl⟩ := Int.eq_ofNat_of_zero_le (show 0 ≤ x by omega)
        exact made_in a f k A zs c Ao old co w ha h1 h2 h3 h4 h5 ho hz (by omega) (by omega) (by omega)
      · rw [if_neg hok] at hm
        cases hm

theorem made_bad (s : Stp) (v : Value) (src : Option (List Int)) (w : World) (hs : Src w v src) (hr : rightS s = true) (hm : madeO src s = none) :
    Calls Try.prog 36 #[stepV s, v] w (Throws 5 w) := by
  obtain ⟨a, n, x, A, c, zs⟩ := s
  have hf := right_facts hr
  simp only at hf
  unfold madeO at hm
  simp only at hm
  by_cases ha : a = 1
  · rw [if_pos ha] at hm
    cases hm
  · rw [if_neg ha] at hm
    cases src with
    | none =>
      have : v = .nilIface := hs
      subst this
      exact made_nil a n x A zs c w ha
    | some old =>
      simp only at hm
      by_cases hok : okRange old n x = true
      · rw [if_pos hok] at hm
        cases hm
      · obtain ⟨Ao, co, rfl, h1, h2, h3, h4, h5⟩ := hs
        exact made_out a n x A zs c Ao old co w ha h1 (by omega) (by omega) (by simpa using hok)

def evalO (src : Option (List Int)) : List Stp → Option (List Int)
  | [] => some []
  | s :: ss => match madeO src s, evalO src ss with
    | some a, some b => some (a ++ b)
    | _, _ => none

theorem evalO_snoc (src : Option (List Int)) (s : Stp) : ∀ (l : List Stp), evalO src (l ++ [s]) = match evalO src l, madeO src s with
    | some a, some b => some (a ++ b)
    | _, _ => none
  | [] => by
    simp only [List.nil_append, evalO]
    cases madeO src s <;> simp
  | t :: l => by
    have ih := evalO_snoc src s l
    simp only [List.cons_append, evalO, ih]
    cases madeO src t <;> cases evalO src l <;> cases madeO src s <;> simp

def sumX (ss : List Stp) : Int := (ss.map (·.x)).sum
theorem sumX_snoc (l : List Stp) (s : Stp) : sumX (l ++ [s]) = sumX l + s.x := by simp [sumX]
theorem sumX_bd : ∀ (ss : List Stp), ss.all rightS = true → 0 ≤ sumX ss ∧ sumX ss ≤ 4096 * ss.length
  | [], _ => by simp [sumX]
  | s :: ss, h => by
    simp only [List.all_cons, Bool.and_eq_true] at h
    have h1 := sumX_bd ss h.2
    have h2 := (right_facts h.1).1
    simp only [sumX, List.map_cons, List.sum_cons, List.length_cons] at h1 ⊢
    omega

theorem holdsS_later {w w' : World} {A : Option Addr} {ss : List Stp} (h : HoldsS w A ss) (hb : Below w.heap.size w w') : HoldsS w' A ss := by
  intro hx
  obtain ⟨b, off, e, hlt, hc⟩ := steps_below h hb hx
  refine ⟨b, off, e, Nat.lt_of_lt_of_le hlt hb.size, fun i r hi => ?_⟩
  obtain ⟨cs, ⟨r0, r1, r2, r3, r4, r5, r6, r7⟩, h2, h3⟩ := hc i r hi
  exact ⟨cs, ⟨r0, r1, r2, r3, r4, r5, r6, r7.more hb.size⟩, h2, h3⟩

set_option maxRecDepth 100000 in
set_option maxHeartbeats 1600000 in
theorem eval_form (A : Option Addr) (ss : List Stp) (c : Nat) (v : Value) (want : Int) (w : World) (hc : ss.length ≤ c) (hm : c ≤ maxLen) (hr : HoldsS w A ss) (h : ss.all rightS = false) :
    Calls Try.prog 21 #[.slice A ss.length c, v, .int .i64 want] w (GivesE [] 3 w) := by
  have hb0 : Below w.heap.size w ((w.alloc (.cells #[.slice none 0 0] 30)).alloc (.cells #[.int .i64 0] 26)) := ((Below.refl _ _).alloc (Nat.le_refl _) _).alloc (by simp) _
  have bp := (Block.new w 30 #[.slice none 0 0]).alloc (.cells #[.int .i64 0] 26)
  have bq : Block ((w.alloc (.cells #[.slice none 0 0] 30)).alloc (.cells #[.int .i64 0] 26)) (w.heap.size + 1) 26 #[.int .i64 0] := by
    have := Block.new (w.alloc (.cells #[.slice none 0 0] 30)) 26 #[.int .i64 0]
    simpa using this
  have hs0 : w.heap.size + 2 ≤ ((w.alloc (.cells #[.slice none 0 0] 30)).alloc (.cells #[.int .i64 0] 26)).heap.size := by simp
  go_enter_defers Try.func21, Try.ntmps21
  go_wp2_with fail
  generalize (w.alloc (.cells #[.slice none 0 0] 30)).alloc (.cells #[.int .i64 0] 26) = w0 at *
  have hr0 := holdsS_later hr hb0
  have G := Lib.hid (h ▸ are_any A ss c w0 hc hm hr0)
  refine G.out.mono ?_
  rintro e w1 ⟨rfl, hb1⟩
  have bp1 := bp.below hb1 bp.lt
  have bq1 := bq.below hb1 bq.lt
  have p0 := bp1.cellOf 0 (u := .slice none 0 0) rfl
  have p1 := bq1.cellOf 0 (u := .int .i64 0) rfl
  have z0 := bp1.frozen 0
  have z1 := bq1.frozen 0
  go_wp2_with fail
  have g0 := (bp1.set_ 0 (.slice none 0 0)).far (p := ⟨w.heap.size + 1, 0, none⟩) (by simp) (.int .i64 3)
  have g1 := (bq1.far (p := ⟨w.heap.size, 0, none⟩) (by simp) (.slice none 0 0)).set_ 0 (.int .i64 3)
  have c0 := g0.cellOf 0 (u := .slice none 0 0) rfl
  have c1 := g1.cellOf 0 (u := .int .i64 3) rfl
  have hb9 := ((hb0.trans (hb1.mono hb0.size)).setCell (p := ⟨w.heap.size, 0, none⟩) (Nat.le_refl _) (.slice none 0 0)).setCell (p := ⟨w.heap.size + 1, 0, none⟩) (Nat.le_succ _) (.int .i64 3)
  exact ⟨.tuple #[.slice none 0 0, .int .i64 3], by simp [results, Try.results21, go_sem, c0, c1], none, 0, rfl, Holds.nil, Nat.le_refl _, Nat.zero_le _, hb9⟩

set_option maxRecDepth 100000 in
set_option maxHeartbeats 3200000 in
theorem eval_plan (A : Option Addr) (ss : List Stp) (c : Nat) (v : Value) (want : Int) (w : World) (hl : ss.length ≤ 1000) (hc : ss.length ≤ c) (hm : c ≤ maxLen) (hr : HoldsS w A ss) (h : ss.all rightS = true) (hw : sumX ss ≠ want) :
    Calls Try.prog 21 #[.slice A ss.length c, v, .int .i64 want] w (GivesE [] 13 w) := by
  have hb0 : Below w.heap.size w ((w.alloc (.cells #[.slice none 0 0] 30)).alloc (.cells #[.int .i64 0] 26)) := ((Below.refl _ _).alloc (Nat.le_refl _) _).alloc (by simp) _
  have bp := (Block.new w 30 #[.slice none 0 0]).alloc (.cells #[.int .i64 0] 26)
  have bq : Block ((w.alloc (.cells #[.slice none 0 0] 30)).alloc (.cells #[.int .i64 0] 26)) (w.heap.size + 1) 26 #[.int .i64 0] := by
    have := Block.new (w.alloc (.cells #[.slice none 0 0] 30)) 26 #[.int .i64 0]
    simpa using this
  have hall := fun (i : Nat) (hi : i < ss.length) => List.all_eq_true.1 h ss[i] (List.getElem_mem hi)
  have hbd := fun (i : Nat) => sumX_bd (ss.take i) (all_take h i)
  go_enter_defers Try.func21, Try.ntmps21
  go_wp2_with fail
  generalize (w.alloc (.cells #[.slice none 0 0] 30)).alloc (.cells #[.int .i64 0] 26) = w0 at *
  have hr0 := holdsS_later hr hb0
  have G := Lib.hid (h ▸ are_any A ss c w0 hc hm hr0)
  clear h
  refine G.out.mono ?_
  rintro e w1 ⟨rfl, hb1⟩
  have bp1 := bp.below hb1 bp.lt
  have bq1 := bq.below hb1 bq.lt
  have hb01 := hb0.trans (hb1.mono hb0.size)
  have hr1 := holdsS_later hr hb01
  clear hr0 hr hb0 hb1 bp bq G
  unfold maxLen at hm
  go_wp2_with fail
  go_loopw [8, 18] (fun t s wr => ∃ i : Nat, i ≤ ss.length ∧ s = .int .i64 i ∧ t = .int .i64 (sumX (ss.take i)) ∧ Below w1.heap.size w1 wr) (fun _ s _ => ss.length - (intOf s).toNat)
  case atStart => exact ⟨0, Nat.zero_le _, rfl, by simp [sumX], Below.refl _ _⟩
  case round =>
    obtain ⟨i, hi, rfl, rfl, hb⟩ := hrel
    have hbi := hbd i
    rw [List.length_take] at hbi
    by_cases hlt : i < ss.length
    · have hri := (right_facts (hall i hlt)).1
      obtain ⟨b, off, rfl, hbl, c0, c1, c2, c3, k0, k1, k2, h1, h2, hoz, hrz⟩ := stepAt (steps_below hr1 hb) hlt
      have hnext : sumX (ss.take (i + 1)) = sumX (ss.take i) + ss[i].x := by rw [take_next hlt, sumX_snoc]
      generalize ss[i] = s at *
      obtain ⟨a, n, x, Az, cz, zs⟩ := s
      simp only at c0 c1 c2 c3 hri hnext
      generalize sumX (ss.take i) = S at *
      have HN := Lib.hid hnext
      have hb3 := hb.alloc hb.size (.cells #[.int .u8 a, .int .i64 n, .int .i64 x, .slice Az zs.length cz] 41)
      clear k0 k1 k2 h1 h2 hoz hrz hnext hall hbd
      go_wp2_with fail
      go_roundw
      case rel => exact ⟨i + 1, by omega, by go_num, by rw [HN.out], hb3⟩
      case measure => simp [intOf] <;> omega
    · obtain rfl : i = ss.length := by omega
      rw [List.take_of_length_le (Nat.le_refl _)] at hbi ⊢
      have hne : (sumX ss != want) = true := by simpa using hw
      have bp2 := bp1.below hb bp1.lt
      have bq2 := bq1.below hb bq1.lt
      have p0 := bp2.cellOf 0 (u := .slice none 0 0) rfl
      have p1 := bq2.cellOf 0 (u := .int .i64 0) rfl
      have z0 := bp2.frozen 0
      have z1 := bq2.frozen 0
      generalize sumX ss = S at *
      clear hall hbd hw
      go_wp2_with fail
      have g0 := (bp2.set_ 0 (.slice none 0 0)).far (p := ⟨w.heap.size + 1, 0, none⟩) (by simp) (.int .i64 13)
      have g1 := (bq2.far (p := ⟨w.heap.size, 0, none⟩) (by simp) (.slice none 0 0)).set_ 0 (.int .i64 13)
      have c0 := g0.cellOf 0 (u := .slice none 0 0) rfl
      have c1 := g1.cellOf 0 (u := .int .i64 13) rfl
      have hb9 := ((hb01.trans (hb.mono hb01.size)).setCell (p := ⟨w.heap.size, 0, none⟩) (Nat.le_refl _) (.slice none 0 0)).setCell (p := ⟨w.heap.size + 1, 0, none⟩) (Nat.le_succ _) (.int .i64 13)
      exact ⟨.tuple #[.slice none 0 0, .int .i64 13], by simp [results, Try.results21, go_sem, c0, c1], none, 0, rfl, Holds.nil, Nat.le_refl _, Nat.zero_le _, hb9⟩
end Go.Proofs.Ytheofegmbajmkaa.Pl
