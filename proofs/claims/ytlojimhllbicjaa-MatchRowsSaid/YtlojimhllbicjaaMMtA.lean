/-
  Layer 15, match: whether pieces are right: both functions: contracts. Conditions: as each theorem names.
-/
import Derived.Test.YtlojimhllbicjaaRows
import Derived.Test.YtlojimhllbicjaaMMem
import Derived.Test.YtlojimhllbicjaaMGMows0
import Derived.LoopTactic
import Derived.IntWalk
namespace Go.Proofs.Ytlojimhllbicjaa.Mt
open Go.ChangeShapes Go.WideShapes Go.ChangeAt Go.RowKit Go.Proofs.Ytlojimhllbicjaa.Kit

theorem below_last (w : World) (o : Obj) : Below w.heap.size w (w.alloc o) := (Below.refl _ _).alloc (Nat.le_refl _) _
/-- A piece: where it stands in the new image, in the old one, how long. -/
structure Pc where
  n : Int
  o : Int
  l : Int
def PcOk (p : Pc) : Prop := (-9223372036854775808 ≤ p.n ∧ p.n ≤ 9223372036854775807) ∧ (-9223372036854775808 ≤ p.o ∧ p.o ≤ 9223372036854775807) ∧ (-9223372036854775808 ≤ p.l ∧ p.l ≤ 9223372036854775807)
def HoldsP (w : World) (B : Nat) (A : Option Addr) (ps : List Pc) : Prop :=
  0 < ps.length → ∃ b off : Nat, A = some ⟨b, off, none⟩ ∧ b < B ∧ ∀ (i : Nat) (p : Pc), ps[i]? = some p → w.cell? ⟨b, off + i * 3, none⟩ = some (.int .i64 p.n) ∧ w.cell? ⟨b, off + i * 3 + 1, none⟩ = some (.int .i64 p.o) ∧ w.cell? ⟨b, off + i * 3 + 2, none⟩ = some (.int .i64 p.l)
theorem HoldsP.below {w w' : World} {B : Nat} {A : Option Addr} {ps : List Pc} (h : HoldsP w B A ps) (hb : Below B w w') : HoldsP w' B A ps := by
  intro hx
  obtain ⟨b, off, e, hB, hc⟩ := h hx
  refine ⟨b, off, e, hB, fun i p hi => ?_⟩
  obtain ⟨h0, h1, h2⟩ := hc i p hi
  exact ⟨(hb.cell (p := ⟨b, _, none⟩) hB).trans h0, (hb.cell (p := ⟨b, _, none⟩) hB).trans h1, (hb.cell (p := ⟨b, _, none⟩) hB).trans h2⟩
theorem HoldsP.more {w : World} {B B' : Nat} {A : Option Addr} {ps : List Pc} (h : HoldsP w B A ps) (hB : B ≤ B') : HoldsP w B' A ps := by
  intro hx
  obtain ⟨b, off, e, hb, hc⟩ := h hx
  exact ⟨b, off, e, by omega, hc⟩
def pcOf (r : List Int) : Pc := ⟨r[0]?.getD 0, r[1]?.getD 0, r[2]?.getD 0⟩
theorem holdsP_of {w : World} {B : Nat} {A : Option Addr} {rows : List (List Int)} (h : HoldsR w B [.i64, .i64, .i64] A rows) : HoldsP w B A (rows.map pcOf) := by
  intro hx
  rw [List.length_map] at hx
  obtain ⟨b, off, e, hb, hc⟩ := h hx
  refine ⟨b, off, e, hb, fun i p hi => ?_⟩
  rw [List.getElem?_map] at hi
  obtain ⟨r, hr, rfl⟩ := Option.map_eq_some_iff.1 hi
  have := hc i r hr
  exact ⟨this 0 .i64 rfl, this 1 .i64 rfl, this 2 .i64 rfl⟩
theorem pcOk_of {rows : List (List Int)} (h : ∀ (i : Nat) (row : List Int), rows[i]? = some row → row.length = [IntKind.i64, .i64, .i64].length ∧ ∀ (j : Nat) (k : IntKind), [IntKind.i64, .i64, .i64][j]? = some k → (Lit.int k (row[j]?.getD 0)).wf = true) : ∀ p ∈ rows.map pcOf, PcOk p := by
  intro p hp
  obtain ⟨r, hr, rfl⟩ := List.mem_map.1 hp
  obtain ⟨i, hi, rfl⟩ := List.mem_iff_getElem.1 hr
  have h1 := (h i _ (List.getElem?_eq_getElem hi)).2
  exact ⟨bounds_i64 (h1 0 .i64 rfl), bounds_i64 (h1 1 .i64 rfl), bounds_i64 (h1 2 .i64 rfl)⟩

/-- Is it there in both images? -/
def oneB (old new : Int) (p : Pc) : Bool := decide (1 ≤ p.l ∧ 0 ≤ p.n ∧ 0 ≤ p.o ∧ p.n ≤ new ∧ p.o ≤ old ∧ p.l ≤ new - p.n ∧ p.l ≤ old - p.o)
def mayL (old new : Int) : Int → List Pc → Bool
  | _, [] => true
  | e, p :: ps => oneB old new p && decide (e ≤ p.n) && mayL old new (p.n + p.l) ps
def isInB (x a b : Int) : Bool := decide (a ≤ x ∧ x ≤ b)
theorem isIn_any (x a b : Int) (w : World) : Calls Try.prog 14 #[.int .i64 x, .int .i64 a, .int .i64 b] w fun e w' => e = .returned (.bool (isInB x a b)) ∧ w = w' := by
  by_cases h0 : a ≤ x
  · have d0 : decide (a ≤ x) = true := decide_eq_true h0
    by_cases h1 : x ≤ b
    · have d1 : decide (x ≤ b) = true := decide_eq_true h1
      rw [show isInB x a b = true from decide_eq_true ⟨h0, h1⟩]
      go_enter Try.func14, Try.ntmps14
      go_wp2
      go_ret
      exact ⟨rfl, rfl⟩
    · have d1 : decide (x ≤ b) = false := decide_eq_false h1
      rw [show isInB x a b = false from decide_eq_false (by omega)]
      go_enter Try.func14, Try.ntmps14
      go_wp2
      go_ret
      exact ⟨rfl, rfl⟩
  · have d0 : decide (a ≤ x) = false := decide_eq_false h0
    rw [show isInB x a b = false from decide_eq_false (by omega)]
    go_enter Try.func14, Try.ntmps14
    go_wp2
    go_ret
    exact ⟨rfl, rfl⟩

theorem mayL_bad {old new e : Int} {p : Pc} {ps : List Pc} (h : ¬ (1 ≤ p.l ∧ 0 ≤ p.o ∧ p.o ≤ old ∧ e ≤ p.n ∧ p.n ≤ new ∧ p.l ≤ old - p.o ∧ p.l ≤ new - p.n)) (he : 0 ≤ e) : mayL old new e (p :: ps) = false := by
  unfold mayL oneB
  by_cases h1 : e ≤ p.n
  · rw [decide_eq_false (show ¬ (1 ≤ p.l ∧ 0 ≤ p.n ∧ 0 ≤ p.o ∧ p.n ≤ new ∧ p.o ≤ old ∧ p.l ≤ new - p.n ∧ p.l ≤ old - p.o) by omega)]; rfl
  · rw [decide_eq_false h1]; simp
theorem mayL_good {old new e : Int} {p : Pc} {ps : List Pc} (h1 : oneB old new p = true) (h2 : e ≤ p.n) : mayL old new e (p :: ps) = mayL old new (p.n + p.l) ps := by
  rw [mayL, h1, decide_eq_true h2]; rfl

set_option maxRecDepth 100000 in
set_option maxHeartbeats 6400000 in
theorem may_any (A : Option Addr) (ps : List Pc) (c : Nat) (old new : Int) (w : World) (hl : ps.length ≤ 1000000) (hok : ∀ p ∈ ps, PcOk p) (ho : 0 ≤ old ∧ old ≤ 1000000) (hn : 0 ≤ new ∧ new ≤ 1000000) (hr : HoldsP w w.heap.size A ps) :
    Calls Try.prog 8 #[.slice A ps.length c, .int .i64 old, .int .i64 new] w fun e w' => e = .returned (.bool (mayL old new 0 ps)) ∧ Below w.heap.size w w' := by
  obtain ⟨D, hD⟩ : ∃ D, mayL old new 0 ps = D := ⟨_, rfl⟩
  rw [hD]
  have HD : Hid (mayL old new 0 (ps.drop 0) = D) := Lib.hid (by simpa using hD)
  have HO := Lib.hid hok
  clear hD hok
  go_enter Try.func8, Try.ntmps8
  go_wp2
  go_loopw [7, 12] (fun e i wr => ∃ (j : Nat) (z : Int), j ≤ ps.length ∧ i = .int .i64 j ∧ e = .int .i64 z ∧ 0 ≤ z ∧ z ≤ 1000000 ∧ Hid (mayL old new z (ps.drop j) = D) ∧ Below w.heap.size w wr) (fun _ i _ => ps.length - (intOf i).toNat)
  case atStart => exact ⟨0, 0, Nat.zero_le _, rfl, rfl, by omega, by omega, HD, Below.refl _ _⟩
  case round =>
    obtain ⟨j, z, hj, rfl, rfl, hz0, hz1, HM, hB⟩ := hrel
    clear HD
    by_cases hlt : j < ps.length
    · have d1 : decide ((j : Int) < (ps.length : Int)) = true := decide_eq_true (by omega)
      have d2 : decide (j < ps.length) = true := decide_eq_true hlt
      have hd : ps.drop j = ps[j] :: ps.drop (j + 1) := List.drop_eq_getElem_cons hlt
      obtain ⟨b, off, rfl, hbB, hc⟩ := (hr.below hB) (by omega)
      obtain ⟨h0, h1, h2⟩ := hc j ps[j] (List.getElem?_eq_getElem hlt)
      have hp := HO.out ps[j] (List.getElem_mem hlt)
      have hm := HM.out
      rw [hd] at hm
      clear HM hd hc
      have HM := Lib.hid hm
      clear hm
      generalize ps[j] = p at *
      obtain ⟨pn, po, pl⟩ := p
      obtain ⟨hpn, hpo, hpl⟩ := hp
      simp only at h0 h1 h2 hpn hpo hpl
      have blk := Block.new wr 25 #[.int .i64 pn, .int .i64 po, .int .i64 pl]
      have q0 := blk.cell 0
      have q1 := blk.cell 1
      have q2 := blk.cell 2
      simp at q0 q1 q2
      have hB1 := hB.alloc hB.size (.cells #[.int .i64 pn, .int .i64 po, .int .i64 pl] 25)
      have HX : Hid (∀ x a b W, Calls Try.prog 14 #[.int .i64 x, .int .i64 a, .int .i64 b] W fun e w' => e = .returned (.bool (isInB x a b)) ∧ W = w') := Lib.hid isIn_any
      clear blk
      by_cases t0 : pl < 1
      · have u0 : decide (pl < 1) = true := decide_eq_true t0
        have HF : Hid (D = false) := Lib.hid (HM.out.symm.trans (mayL_bad (by simp only; omega) hz0))
        clear HM
        go_wp2_with (first | (go_at_call 14; (with_reducible refine (HX.out _ _ _ _).mono ?_); rintro e w1 ⟨rfl, rfl⟩))
        go_ret
        exact ⟨by rw [HF.out]; rfl, hB1⟩
      have u0 : decide (pl < 1) = false := decide_eq_false t0
      by_cases t1 : ¬ (0 ≤ po ∧ po ≤ old)
      · have u1 : isInB po 0 old = false := decide_eq_false t1
        have HF : Hid (D = false) := Lib.hid (HM.out.symm.trans (mayL_bad (by simp only; omega) hz0))
        clear HM
        go_wp2_with (first | (go_at_call 14; (with_reducible refine (HX.out _ _ _ _).mono ?_); rintro e w1 ⟨rfl, rfl⟩))
        go_ret
        exact ⟨by rw [HF.out]; rfl, hB1⟩
      have u1 : isInB po 0 old = true := decide_eq_true (by omega)
      by_cases t2 : ¬ (z ≤ pn ∧ pn ≤ new)
      · have u2 : isInB pn z new = false := decide_eq_false t2
        have HF : Hid (D = false) := Lib.hid (HM.out.symm.trans (mayL_bad (by simp only; omega) hz0))
        clear HM
        go_wp2_with (first | (go_at_call 14; (with_reducible refine (HX.out _ _ _ _).mono ?_); rintro e w1 ⟨rfl, rfl⟩))
        go_ret
        exact ⟨by rw [HF.out]; rfl, hB1⟩
      have u2 : isInB pn z new = true := decide_eq_true (by omega)
      by_cases t3 : old - po < pl
      · have u3 : decide (old - po < pl) = true := decide_eq_true t3
        have HF : Hid (D = false) := Lib.hid (HM.out.symm.trans (mayL_bad (by simp only; omega) hz0))
        clear HM
        go_wp2_with (first | (go_at_call 14; (with_reducible refine (HX.out _ _ _ _).mono ?_); rintro e w1 ⟨rfl, rfl⟩))
        go_ret
        exact ⟨by rw [HF.out]; rfl, hB1⟩
      have u3 : decide (old - po < pl) = false := decide_eq_false t3
      by_cases t4 : new - pn < pl
      · have u4 : decide (new - pn < pl) = true := decide_eq_true t4
        have HF : Hid (D = false) := Lib.hid (HM.out.symm.trans (mayL_bad (by simp only; omega) hz0))
        clear HM
        go_wp2_with (first | (go_at_call 14; (with_reducible refine (HX.out _ _ _ _).mono ?_); rintro e w1 ⟨rfl, rfl⟩))
        go_ret
        exact ⟨by rw [HF.out]; rfl, hB1⟩
      have u4 : decide (new - pn < pl) = false := decide_eq_false t4
      have hone : oneB old new ⟨pn, po, pl⟩ = true := decide_eq_true (by simp only; omega)
      have HN : Hid (mayL old new (pn + pl) (ps.drop (j + 1)) = D) := Lib.hid (by rw [← HM.out, mayL_good hone (by simp only; omega)])
      clear HM hone
      go_wp2_with (first | (go_at_call 14; (with_reducible refine (HX.out _ _ _ _).mono ?_); rintro e w1 ⟨rfl, rfl⟩))
      go_roundw
      case rel => exact ⟨j + 1, pn + pl, hlt, by go_num, rfl, by omega, by omega, HN, hB1⟩
      case measure => simp [intOf] <;> omega
    · obtain rfl : j = ps.length := by omega
      have d1 : decide ((ps.length : Int) < (ps.length : Int)) = false := decide_eq_false (by omega)
      have d2 : decide (ps.length < ps.length) = false := decide_eq_false (by omega)
      have hm := HM.out
      rw [List.drop_eq_nil_of_le (Nat.le_refl _), mayL] at hm
      subst hm
      go_wp2
      go_ret
      exact ⟨rfl, hB⟩

/-- The document's one. -/
theorem one_any (n o l old new : Int) (w : World) (hp : PcOk ⟨n, o, l⟩) (ho : 0 ≤ old ∧ old ≤ 1000000) (hn : 0 ≤ new ∧ new ≤ 1000000) : Calls Try.prog 15 #[.agg #[.int .i64 n, .int .i64 o, .int .i64 l], .int .i64 old, .int .i64 new] w fun e w' => e = .returned (.bool (oneB old new ⟨n, o, l⟩)) ∧ Below w.heap.size w w' := by
  have B1 := below_last w (.cells #[.int .i64 n, .int .i64 o, .int .i64 l] 25)
  obtain ⟨h1, h2, h3⟩ := hp
  simp only at h1 h2 h3
  obtain ⟨D, hD⟩ : ∃ D, oneB old new ⟨n, o, l⟩ = D := ⟨_, rfl⟩
  rw [hD]
  have HD : Hid (decide (1 ≤ l ∧ 0 ≤ n ∧ 0 ≤ o ∧ n ≤ new ∧ o ≤ old ∧ l ≤ new - n ∧ l ≤ old - o) = D) := Lib.hid hD
  clear hD
  by_cases t0 : l < 1
  · have u0 : decide (l < 1) = true := decide_eq_true t0
    have HF : Hid (D = false) := Lib.hid (HD.out.symm.trans (decide_eq_false (by omega)))
    clear HD
    go_enter Try.func15, Try.ntmps15
    go_wp2
    go_ret
    exact ⟨by rw [HF.out]; rfl, B1⟩
  have u0 : decide (l < 1) = false := decide_eq_false t0
  by_cases t1 : n < 0
  · have u1 : decide (n < 0) = true := decide_eq_true t1
    have HF : Hid (D = false) := Lib.hid (HD.out.symm.trans (decide_eq_false (by omega)))
    clear HD
    go_enter Try.func15, Try.ntmps15
    go_wp2
    go_ret
    exact ⟨by rw [HF.out]; rfl, B1⟩
  have u1 : decide (n < 0) = false := decide_eq_false t1
  by_cases t2 : o < 0
  · have u2 : decide (o < 0) = true := decide_eq_true t2
    have HF : Hid (D = false) := Lib.hid (HD.out.symm.trans (decide_eq_false (by omega)))
    clear HD
    go_enter Try.func15, Try.ntmps15
    go_wp2
    go_ret
    exact ⟨by rw [HF.out]; rfl, B1⟩
  have u2 : decide (o < 0) = false := decide_eq_false t2
  by_cases t3 : new < n
  · have u3 : decide (new < n) = true := decide_eq_true t3
    have HF : Hid (D = false) := Lib.hid (HD.out.symm.trans (decide_eq_false (by omega)))
    clear HD
    go_enter Try.func15, Try.ntmps15
    go_wp2
    go_ret
    exact ⟨by rw [HF.out]; rfl, B1⟩
  have u3 : decide (new < n) = false := decide_eq_false t3
  by_cases t4 : old < o
  · have u4 : decide (old < o) = true := decide_eq_true t4
    have HF : Hid (D = false) := Lib.hid (HD.out.symm.trans (decide_eq_false (by omega)))
    clear HD
    go_enter Try.func15, Try.ntmps15
    go_wp2
    go_ret
    exact ⟨by rw [HF.out]; rfl, B1⟩
  have u4 : decide (old < o) = false := decide_eq_false t4
  by_cases t5 : l ≤ new - n
  · have u5 : decide (l ≤ new - n) = true := decide_eq_true t5
    by_cases t6 : l ≤ old - o
    · have u6 : decide (l ≤ old - o) = true := decide_eq_true t6
      have HF : Hid (D = true) := Lib.hid (HD.out.symm.trans (decide_eq_true (by omega)))
      clear HD
      go_enter Try.func15, Try.ntmps15
      go_wp2
      go_ret
      exact ⟨by rw [HF.out]; rfl, B1⟩
    · have u6 : decide (l ≤ old - o) = false := decide_eq_false t6
      have HF : Hid (D = false) := Lib.hid (HD.out.symm.trans (decide_eq_false (by omega)))
      clear HD
      go_enter Try.func15, Try.ntmps15
      go_wp2
      go_ret
      exact ⟨by rw [HF.out]; rfl, B1⟩
  · have u5 : decide (l ≤ new - n) = false := decide_eq_false t5
    have HF : Hid (D = false) := Lib.hid (HD.out.symm.trans (decide_eq_false (by omega)))
    clear HD
    go_enter Try.func15, Try.ntmps15
    go_wp2
    go_ret
    exact ⟨by rw [HF.out]; rfl, B1⟩
end Go.Proofs.Ytlojimhllbicjaa.Mt
