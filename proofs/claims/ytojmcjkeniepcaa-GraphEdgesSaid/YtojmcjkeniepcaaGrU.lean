/-
  Layer 18, graph.Reads and the document's Reads: contracts. Conditions: as each theorem names.
-/
import Derived.Test.YtojmcjkeniepcaaGrT
namespace Go.Proofs.Ytojmcjkeniepcaa.Gr
open Go.ChangeShapes Go.WideShapes Go.ChangeAt Go.RowKit Go.Proofs.Ytojmcjkeniepcaa.Kit Go.Proofs.Ytojmcjkeniepcaa.Pl Go.Proofs.Ytojmcjkeniepcaa.Sk

instance (block many : Int) (s : Stp) (y : Int) : Decidable (AskS block many s y) := by unfold AskS; infer_instance
instance (ss : List Stp) (block many y : Int) : Decidable (AskL ss block many y) := by unfold AskL; infer_instance
/-- In which blocks' places a plan asks. -/
def askedTo (ss : List Stp) (block many : Int) (m : Nat) : List Int := ((List.range m).filter fun i : Nat => decide (AskL ss block many i)).map fun i : Nat => (i : Int)
theorem askedTo_next (ss : List Stp) (block many : Int) (m : Nat) : askedTo ss block many (m + 1) = askedTo ss block many m ++ (if AskL ss block many m then [(m : Int)] else []) := by
  unfold askedTo
  rw [List.range_succ, List.filter_append, List.map_append]
  congr 1
  by_cases h : AskL ss block many m
  · rw [if_pos h]
    simp only [List.filter_cons, decide_eq_true h, if_true, List.filter_nil, List.map_cons, List.map_nil]
  · rw [if_neg h]
    simp only [List.filter_cons, decide_eq_false h, List.filter_nil]
    rfl
theorem askedTo_length (ss : List Stp) (block many : Int) (m : Nat) : (askedTo ss block many m).length ≤ m := by
  unfold askedTo
  rw [List.length_map]
  exact Nat.le_trans (List.length_filter_le _ _) (by simp)
theorem askedTo_up (ss : List Stp) (block many : Int) (m : Nat) : (askedTo ss block many m).Pairwise (· < ·) := by
  unfold askedTo
  rw [List.pairwise_map]
  refine (List.Pairwise.filter _ (List.pairwise_lt_range)).imp ?_
  intro a b h
  omega
theorem mem_askedTo {ss : List Stp} {block many : Int} {m : Nat} {x : Int} : x ∈ askedTo ss block many m ↔ ∃ i : Nat, i < m ∧ x = i ∧ AskL ss block many i := by
  unfold askedTo
  constructor
  · intro h
    obtain ⟨i, hi, rfl⟩ := List.mem_map.1 h
    obtain ⟨h1, h2⟩ := List.mem_filter.1 hi
    exact ⟨i, List.mem_range.1 h1, rfl, of_decide_eq_true h2⟩
  · rintro ⟨i, hi, rfl, h⟩
    exact List.mem_map.2 ⟨i, List.mem_filter.2 ⟨List.mem_range.2 hi, decide_eq_true h⟩, rfl⟩
theorem ask_bounds {ss : List Stp} {block many y : Int} (hb : 0 < block) (hall : ss.all rightS = true) (h : AskL ss block many y) : 0 ≤ y ∧ y < many := by
  obtain ⟨s, hs, _, h1, _, h3⟩ := h
  have := right_facts (List.all_eq_true.1 hall s hs)
  have := Int.ediv_nonneg this.2.2.1 (Int.le_of_lt hb)
  omega
def mayB (block many : Int) : Bool := decide (128 ≤ block ∧ block ≤ 4096 ∧ 0 ≤ many ∧ many ≤ 4096)
/-- What Reads answers. -/
def readsL (ss : List Stp) (block many : Int) : List Int × Int :=
  if mayB block many = false then ([], 1) else if ss.all rightS = true then (askedTo ss block many many.toNat, 0) else ([], 3)
/-- Numbers in new memory, and an error. -/
def GivesR (r : List Int × Int) (w : World) (e : Ending) (w' : World) : Prop :=
  ∃ (A : Option Addr) (cap : Nat), e = .returned (.tuple #[.slice A r.1.length cap, .int .i64 r.2]) ∧ r.1.length ≤ cap ∧ cap ≤ maxLen ∧ Holds w' w'.heap.size .i64 A r.1 ∧ Below w.heap.size w w'
theorem GivesR.of {l : List Int} {x : Int} {v : Value} {w w' : World} {B : Nat} (h : Own w' B 3 .i64 v l) (hb : Below w.heap.size w w') : GivesR (l, x) w (.returned (.tuple #[v, .int .i64 x])) w' := by
  obtain ⟨A, cap, rfl, h1, h2, h3⟩ := h.opened
  exact ⟨A, cap, rfl, h1, h2, h3, hb⟩
theorem GivesR.no {x : Int} {w w' : World} (hb : Below w.heap.size w w') : GivesR ([], x) w (.returned (.tuple #[.slice none 0 0, .int .i64 x])) w' := ⟨none, 0, rfl, Nat.le_refl _, Nat.zero_le _, Holds.nil, hb⟩

set_option maxRecDepth 100000 in
set_option maxHeartbeats 3200000 in
theorem reads_any (A : Option Addr) (ss : List Stp) (c : Nat) (block many : Int) (w : World) (hl : ss.length ≤ 1000) (hr : HoldsS w A ss) :
    Calls Try.prog 11 #[.slice A ss.length c, .int .i64 block, .int .i64 many] w (GivesR (readsL ss block many) w) := by
  have GM := Lib.hid (may_any block many w)
  cases hm : mayB block many with
  | false =>
    have hm' := hm
    unfold mayB at hm'
    rw [hm'] at GM
    unfold readsL
    rw [if_pos hm]
    clear hr hm hm' hl
    go_enter Try.func11, Try.ntmps11
    go_wp2_with (go_at_call 27; refine GM.out.mono ?_; rintro e w1 ⟨rfl, rfl⟩)
    go_ret2
    exact GivesR.no (Below.refl _ _)
  | true =>
    have hm' := hm
    unfold mayB at hm'
    obtain ⟨b1, b2, b3, b4⟩ := of_decide_eq_true hm'
    rw [hm'] at GM
    have GA := Lib.hid (asked_any A ss c block many w hl b1 b2 b3 b4 hr)
    unfold readsL
    rw [if_neg (by rw [hm]; simp)]
    clear hm hm' hr hl
    cases hall : ss.all rightS with
    | false =>
      have HG : Hid (∀ e w', GAsked ss block many w e w' → e = .returned (.tuple #[.map none, .int .i64 3]) ∧ Below w.heap.size w w') := Lib.hid (fun e w' h => by
        unfold GAsked at h
        rw [if_neg (by rw [hall]; simp)] at h
        exact h)
      rw [if_neg (by simp)]
      clear hall
      go_enter Try.func11, Try.ntmps11
      go_wp2_with (first
        | (go_at_call 27; refine GM.out.mono ?_; rintro e w1 ⟨rfl, rfl⟩)
        | (go_at_call 28; refine GA.out.mono ?_; intro e w2 h2; obtain ⟨rfl, hb2⟩ := HG.out _ _ h2; clear h2)
        | (go_at_call 29; refine (rising_nil _).mono ?_; rintro e w3 ⟨v, rfl, ho, hb3⟩))
      go_ret2
      exact GivesR.of ho (hb2.trans (hb3.mono hb2.size))
    | true =>
      have HG : Hid (∀ e w', GAsked ss block many w e w' → ∃ b N, e = .returned (.tuple #[.map (some b), .int .i64 0]) ∧ N < 900000000 ∧ SetAt w' b N (AskL ss block many) ∧ w.heap.size ≤ b ∧ Below w.heap.size w w') := Lib.hid (fun e w' h => by
        unfold GAsked at h
        rw [if_pos hall] at h
        exact h)
      have HL : Hid (∀ x, x ∈ askedTo ss block many many.toNat ↔ AskL ss block many x) := Lib.hid (fun x => by
        rw [mem_askedTo]
        constructor
        · rintro ⟨i, _, rfl, h⟩
          exact h
        · intro h
          have := ask_bounds (by omega) hall h
          exact ⟨x.toNat, by omega, by omega, by rw [Int.toNat_of_nonneg this.1]; exact h⟩)
      have HU := Lib.hid (askedTo_up ss block many many.toNat)
      rw [if_pos rfl]
      generalize askedTo ss block many many.toNat = l at *
      clear hall
      go_enter Try.func11, Try.ntmps11
      go_wp2_with (first
        | (go_at_call 27; refine GM.out.mono ?_; rintro e w1 ⟨rfl, rfl⟩)
        | (go_at_call 28; refine GA.out.mono ?_; intro e w2 h2; obtain ⟨b, N, rfl, hN, hS, hbw, hb2⟩ := HG.out _ _ h2; clear h2; have GR := Lib.hid (rising_any hS (by omega) HU.out HL.out))
        | (have _t := GR; go_at_call 29; refine GR.out.mono ?_; clear _t; rintro e w3 ⟨v, rfl, ho, hb3⟩))
      go_ret2
      exact GivesR.of ho (hb2.trans (hb3.mono hb2.size))

/-- What the document asks of one step, against the program's words. -/
theorem ask_words {s : Stp} (h : rightS s = true) {block many : Int} (hb : 0 < block) {i : Nat} (hi : (i : Int) < many) :
    AskS block many s i ↔ (1 < s.a ∧ s.b < (i + 1) * block ∧ i * block < s.b + s.x) := by
  have h1 : s.a = 1 ∨ s.a = 2 ∨ s.a = 3 := by
    unfold rightS rightB at h
    have := of_decide_eq_true h
    omega
  unfold AskS
  have e1 : s.b / block ≤ i ↔ s.b < (i + 1) * block := by
    rw [← Int.ediv_lt_iff_lt_mul hb]
    omega
  have e2 : (i : Int) ≤ (s.b + s.x - 1) / block ↔ i * block < s.b + s.x := by
    rw [Int.le_ediv_iff_mul_le hb]
    omega
  rw [e1, e2]
  constructor
  · rintro ⟨g1, g2, g3, _⟩
    exact ⟨by omega, g2, g3⟩
  · rintro ⟨g1, g2, g3⟩
    exact ⟨by omega, g2, g3, hi⟩

set_option maxRecDepth 100000 in
set_option maxHeartbeats 6400000 in
theorem rasks_any (A : Option Addr) (ss : List Stp) (c : Nat) (block many : Int) (i : Nat) (w : World) (hb1 : 128 ≤ block) (hb2 : block ≤ 4096) (hi : (i : Int) < many) (hm : many ≤ 4096) (hall : ss.all rightS = true) (hl : ss.length ≤ 1000) (hr : HoldsS w A ss) :
    Calls Try.prog 31 #[.slice A ss.length c, .int .i64 block, .int .i64 i] w (Gives (.bool (decide (AskL ss block many i))) w) := by
  have p0 : 0 ≤ (i : Int) * block := Int.mul_nonneg (by omega) (by omega)
  have p1 : (i : Int) * block ≤ 4096 * 4096 := Int.mul_le_mul (by omega) hb2 (by omega) (by omega)
  have p2 : 0 ≤ ((i : Int) + 1) * block := Int.mul_nonneg (by omega) (by omega)
  have p3 : ((i : Int) + 1) * block ≤ 4097 * 4096 := Int.mul_le_mul (by omega) hb2 (by omega) (by omega)
  have p1' : (i : Int) * block ≤ 16777216 := p1
  have p3' : ((i : Int) + 1) * block ≤ 16781312 := p3
  clear p1 p3
  obtain ⟨bv, hbv⟩ : ∃ bv, decide (AskL ss block many i) = bv := ⟨_, rfl⟩
  rw [hbv]
  have HYES : Hid (∀ k, ∀ h : k < ss.length, (1 < ss[k].a ∧ ss[k].b < (i + 1) * block ∧ i * block < ss[k].b + ss[k].x) → bv = true) := Lib.hid (fun k h hg => by
    rw [← hbv]
    exact decide_eq_true ⟨ss[k], List.getElem_mem h, (ask_words (List.all_eq_true.1 hall _ (List.getElem_mem h)) (by omega) hi).2 hg⟩)
  have HNO : Hid ((∀ k, ∀ h : k < ss.length, ¬ (1 < ss[k].a ∧ ss[k].b < (i + 1) * block ∧ i * block < ss[k].b + ss[k].x)) → bv = false) := Lib.hid (fun hg => by
    rw [← hbv]
    refine decide_eq_false ?_
    rintro ⟨s, hs, ha⟩
    obtain ⟨k, hk, rfl⟩ := List.getElem_of_mem hs
    exact hg k hk ((ask_words (List.all_eq_true.1 hall _ hs) (by omega) hi).1 ha))
  have HRF : Hid (∀ k, ∀ h : k < ss.length, 1 ≤ ss[k].x ∧ ss[k].x ≤ 4096 ∧ 0 ≤ ss[k].b ∧ ss[k].b ≤ 2147483647) := Lib.hid (fun k h => right_facts (List.all_eq_true.1 hall _ (List.getElem_mem h)))
  clear hbv hall
  go_enter Try.func31, Try.ntmps31
  go_wp2_with fail
  go_loopw [11] (fun v wr => ∃ k : Nat, k ≤ ss.length ∧ v = .int .i64 k ∧ (∀ j, ∀ h : j < ss.length, j < k → ¬ (1 < ss[j].a ∧ ss[j].b < (i + 1) * block ∧ i * block < ss[j].b + ss[j].x)) ∧ Below w.heap.size w wr) (fun v _ => ss.length - (intOf v).toNat)
  case atStart => exact ⟨0, Nat.zero_le _, rfl, fun j _ hj => absurd hj (by omega), Below.refl _ _⟩
  case round =>
    obtain ⟨k, hk, rfl, hno, B⟩ := hrel
    obtain ⟨wo, rfl⟩ : ∃ wo : World, wo = wr := ⟨_, rfl⟩
    have HN := Lib.hid hno
    clear hno
    by_cases hlt : k < ss.length
    · have d0 : decide (k < ss.length) = true := decide_eq_true hlt
      obtain ⟨b, off, rfl, hbl, c0, c1, c2, c3, -, -, -, -, -, -, -⟩ := stepAt (steps_below hr B) hlt
      have i1 : (k : Int) < (ss.length : Int) := by omega
      have HNX : Hid (¬ (1 < ss[k].a ∧ ss[k].b < (i + 1) * block ∧ i * block < ss[k].b + ss[k].x) → ∀ j, ∀ h : j < ss.length, j < k + 1 → ¬ (1 < ss[j].a ∧ ss[j].b < (i + 1) * block ∧ i * block < ss[j].b + ss[j].x)) := Lib.hid (fun hg j h hj => by
        by_cases hjk : j < k
        · exact HN.out j h hjk
        · obtain rfl : j = k := by omega
          exact hg)
      have HY := Lib.hid (HYES.out k hlt)
      obtain ⟨r1, r2, r3, r4⟩ := HRF.out k hlt
      obtain ⟨a, n, x, Az, cz, zs, hx⟩ : ∃ a n x Az cz zs, ss[k] = ⟨a, n, x, Az, cz, zs⟩ := ⟨_, _, _, _, _, _, rfl⟩
      rw [hx] at c0 c1 c2 c3 HNX HY r1 r2 r3 r4
      simp only at c0 c1 c2 c3 HNX HY r1 r2 r3 r4
      have X := Block.new wo 52 #[.int .u8 a, .int .i64 n, .int .i64 x, .slice Az zs.length cz]
      have B1 := B.trans ((below_last wo (.cells #[.int .u8 a, .int .i64 n, .int .i64 x, .slice Az zs.length cz] 52)).mono B.size)
      have q0 := X.cell 0
      have q1 := X.cell 1
      have q2 := X.cell 2
      simp at q0 q1 q2
      clear hx X HYES HRF HNO hr
      by_cases ha : 1 < a
      · have e1 : decide (1 < a) = true := decide_eq_true ha
        by_cases hn : n < ((i : Int) + 1) * block
        · have e2 : decide (n < ((i : Int) + 1) * block) = true := decide_eq_true hn
          by_cases hx : (i : Int) * block < n + x
          · have e3 : decide ((i : Int) * block < n + x) = true := decide_eq_true hx
            obtain rfl : bv = true := HY.out ⟨ha, hn, hx⟩
            go_wp2_with fail
            go_ret
            exact ⟨rfl, B1⟩
          · have e3 : decide ((i : Int) * block < n + x) = false := decide_eq_false hx
            have HX := Lib.hid (HNX.out (fun h => hx h.2.2))
            go_wp2_with fail
            go_roundw
            case rel => exact ⟨k + 1, by omega, by go_num, HX.out, B1⟩
            case measure => simp [intOf]; omega
        · have e2 : decide (n < ((i : Int) + 1) * block) = false := decide_eq_false hn
          have HX := Lib.hid (HNX.out (fun h => hn h.2.1))
          go_wp2_with fail
          go_roundw
          case rel => exact ⟨k + 1, by omega, by go_num, HX.out, B1⟩
          case measure => simp [intOf]; omega
      · have e1 : decide (1 < a) = false := decide_eq_false ha
        have HX := Lib.hid (HNX.out (fun h => ha h.1))
        go_wp2_with fail
        go_roundw
        case rel => exact ⟨k + 1, by omega, by go_num, HX.out, B1⟩
        case measure => simp [intOf]; omega
    · have d0 : decide (k < ss.length) = false := decide_eq_false hlt
      obtain rfl : bv = false := HNO.out (fun j h => HN.out j h (by omega))
      clear HYES HNO HRF hr
      go_wp2_with fail
      go_ret
      exact ⟨rfl, B⟩
end Go.Proofs.Ytojmcjkeniepcaa.Gr
