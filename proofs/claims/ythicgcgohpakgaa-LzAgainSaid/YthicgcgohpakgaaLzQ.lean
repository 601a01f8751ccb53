/-
  Layer 11, lz.choose: a contract. Conditions: as each theorem names.
-/
import Derived.Test.YthicgcgohpakgaaLzP
import Derived.Test.YthicgcgohpakgaaOut
import Derived.Deep.QuietTactic
import Derived.BigQuiet
namespace Go.Proofs.Ythicgcgohpakgaa.Lz
open Go.ChangeShapes Go.WideShapes Go.ChangeAt Go.RowKit Go.Proofs.Ythicgcgohpakgaa.Kit

/-- How matches lie in memory. -/
def flatM (ms : List (Nat × Nat)) : List Value := ms.flatMap fun m => [.int .i64 m.1, .int .i64 m.2]
theorem flatM_length (ms : List (Nat × Nat)) : (flatM ms).length = ms.length * 2 := by
  induction ms with
  | nil => rfl
  | cons m ms ih => simp only [flatM, List.flatMap_cons, List.length_append, List.length_cons, List.length_nil] at ih ⊢; omega
theorem flatM_get : ∀ (ms : List (Nat × Nat)) (i : Nat), i < ms.length → (flatM ms)[i * 2]? = some (.int .i64 (ms.getD i (0, 0)).1) ∧ (flatM ms)[i * 2 + 1]? = some (.int .i64 (ms.getD i (0, 0)).2)
  | [], _, h => absurd h (by simp)
  | m :: ms, 0, _ => ⟨rfl, rfl⟩
  | m :: ms, i + 1, h => by
    have := flatM_get ms i (by simpa using h)
    have e : flatM (m :: ms) = (.int .i64 m.1) :: (.int .i64 m.2) :: flatM ms := rfl
    rw [e, show (i + 1) * 2 = i * 2 + 1 + 1 by omega, List.getElem?_cons_succ, List.getElem?_cons_succ, List.getElem?_cons_succ, List.getElem?_cons_succ]
    simpa using this
theorem flatM_set : ∀ (ms : List (Nat × Nat)) (i : Nat) (x y : Nat), ((flatM ms).set (i * 2) (.int .i64 x)).set (i * 2 + 1) (.int .i64 y) = flatM (ms.set i (x, y))
  | [], _, _, _ => by simp [flatM]
  | m :: ms, 0, x, y => rfl
  | m :: ms, i + 1, x, y => by
    have e : flatM (m :: ms) = (.int .i64 m.1) :: (.int .i64 m.2) :: flatM ms := rfl
    rw [e, show (i + 1) * 2 = i * 2 + 1 + 1 by omega, List.set_cons_succ, List.set_cons_succ, List.set_cons_succ, List.set_cons_succ, flatM_set ms i x y]
    rfl
/-- These matches lie whole in block g. -/
def MatAt (w : World) (g : Nat) (ms : List (Nat × Nat)) : Prop := Block w g 43 (flatM ms).toArray
theorem MatAt.cells {w : World} {g : Nat} {ms : List (Nat × Nat)} (h : MatAt w g ms) {i : Nat} (hi : i < ms.length) :
    w.cell? ⟨g, i * 2, none⟩ = some (.int .i64 (ms.getD i (0, 0)).1) ∧ w.cell? ⟨g, i * 2 + 1, none⟩ = some (.int .i64 (ms.getD i (0, 0)).2) := by
  obtain ⟨h1, h2⟩ := flatM_get ms i hi
  refine ⟨(Block.cell h _).trans ?_, (Block.cell h _).trans ?_⟩
  · simpa using h1
  · simpa using h2

theorem getD_set (xs : List Int) (i j : Nat) (z : Int) (hi : i < xs.length) : (xs.set i z).getD j 0 = if j = i then z else xs.getD j 0 := by
  rw [List.getD, List.getD, List.getElem?_set]
  by_cases h : i = j
  · subst h
    rw [if_pos rfl, if_pos rfl, if_pos hi]
    rfl
  · rw [if_neg h, if_neg (Ne.symm h)]

/-- All places behind z are chosen. -/
structure ChI (n : Nat) (S : Nat → Nat) (z : Int) (L T : List Int) : Prop where
  ll : L.length = n
  tl : T.length = n + 1
  end_ : T.getD n 0 = 0
  bd : ∀ i : Nat, z < i → i ≤ n → 0 ≤ T.getD i 0 ∧ T.getD i 0 ≤ n - i
  one : ∀ i : Nat, z < i → i < n → L.getD i 0 = 1 ∨ (3 ≤ L.getD i 0 ∧ L.getD i 0 ≤ S i)
  eq : ∀ i : Nat, z < i → i < n → T.getD i 0 = 1 + T.getD (i + (L.getD i 0).toNat) 0
  le1 : ∀ i : Nat, z < i → i < n → T.getD i 0 ≤ 1 + T.getD (i + 1) 0
  le : ∀ i t : Nat, z < i → i < n → 3 ≤ t → t ≤ S i → T.getD i 0 ≤ 1 + T.getD (i + t) 0
theorem ChI.start (n : Nat) (S : Nat → Nat) : ChI n S ((n : Int) - 1) (List.replicate n 0) (List.replicate (n + 1) 0) := by
  have hz : ∀ i : Nat, (List.replicate (n + 1) (0 : Int)).getD i 0 = 0 := fun i => by
    rw [List.getD, List.getElem?_replicate]
    split <;> rfl
  exact ⟨by simp, by simp, hz n, fun i h1 h2 => by rw [hz]; omega, fun i h1 h2 => by omega, fun i h1 h2 => by omega, fun i h1 h2 => by omega, fun i t h1 h2 => by omega⟩
theorem ChI.lens {n : Nat} {S : Nat → Nat} {i : Nat} {L T : List Int} (h : ChI n S i L T) (hi : i < n) (x : Int) : ChI n S i (L.set i x) T := by
  have hl := h.ll
  have e : ∀ j : Nat, (i : Int) < j → (L.set i x).getD j 0 = L.getD j 0 := fun j hj => by rw [getD_set _ _ _ _ (by omega), if_neg (by omega)]
  exact ⟨by simpa using h.ll, h.tl, h.end_, h.bd, fun j h1 h2 => by rw [e j h1]; exact h.one j h1 h2, fun j h1 h2 => by rw [e j h1]; exact h.eq j h1 h2, h.le1, h.le⟩
theorem ChI.next {n : Nat} {S : Nat → Nat} {i l : Nat} {L T : List Int} (h : ChI n S i L T) (hi : i < n) (hL : L.getD i 0 = l) (hl : l = 1 ∨ (3 ≤ l ∧ l ≤ S i)) (hS : i + S i ≤ n)
    (h1 : T.getD (i + l) 0 ≤ T.getD (i + 1) 0) (h2 : ∀ t, 3 ≤ t → t ≤ S i → T.getD (i + l) 0 ≤ T.getD (i + t) 0) : ChI n S ((i : Int) - 1) L (T.set i (1 + T.getD (i + l) 0)) := by
  have tl := h.tl
  have g : ∀ j, (T.set i (1 + T.getD (i + l) 0)).getD j 0 = if j = i then 1 + T.getD (i + l) 0 else T.getD j 0 := fun j => getD_set _ _ _ _ (by omega)
  have hbl := h.bd (i + l) (by omega) (by omega)
  refine ⟨h.ll, by simpa using h.tl, by rw [g, if_neg (by omega)]; exact h.end_, fun j a b => ?_, fun j a b => ?_, fun j a b => ?_, fun j a b => ?_, fun j t a b c d => ?_⟩
  · rw [g]
    split
    · omega
    · exact h.bd j (by omega) b
  · by_cases hj : j = i
    · subst hj
      rw [hL]
      omega
    · exact h.one j (by omega) b
  · rw [g, g]
    by_cases hj : j = i
    · subst hj
      rw [if_pos rfl, hL, Int.toNat_natCast, if_neg (by omega)]
    · have := h.one j (by omega) b
      rw [if_neg hj, if_neg (by omega)]
      exact h.eq j (by omega) b
  · rw [g, g]
    by_cases hj : j = i
    · subst hj
      rw [if_pos rfl, if_neg (by omega)]
      omega
    · rw [if_neg hj, if_neg (by omega)]
      exact h.le1 j (by omega) b
  · rw [g, g]
    by_cases hj : j = i
    · subst hj
      rw [if_pos rfl, if_neg (by omega)]
      have := h2 t c d
      omega
    · rw [if_neg hj, if_neg (by omega)]
      exact h.le j t (by omega) b c d
theorem ChI.done {n : Nat} {S : Nat → Nat} {L T : List Int} (h : ChI n S (-1) L T) : Chosen n S (fun i => L.getD i 0) (fun i => T.getD i 0) :=
  ⟨h.end_, fun i hi => h.one i (by omega) hi, fun i hi => h.eq i (by omega) hi, fun i hi => h.le1 i (by omega) hi, fun i t hi => h.le i t (by omega) hi⟩
/-- The round's inner state: the best length so far. -/
structure Best (n : Nat) (S : Nat → Nat) (i l : Nat) (t : Int) (T : List Int) : Prop where
  l_ : l = 1 ∨ (3 ≤ l ∧ l ≤ S i)
  h1 : T.getD (i + l) 0 ≤ T.getD (i + 1) 0
  h2 : ∀ u : Nat, t < u → 3 ≤ u → u ≤ S i → T.getD (i + l) 0 ≤ T.getD (i + u) 0
theorem elemI : IntElem Try.prog 40 3 .i64 8 := ⟨by kernel_rfl, by kernel_rfl, by decide⟩
def Choice (n : Nat) (S : Nat → Nat) (w : World) (e : Ending) (w' : World) : Prop :=
  ∃ (g : Nat) (L : List Int) (T : Nat → Int), e = .returned (.slice (some ⟨g, 0, none⟩) n n) ∧ L.length = n ∧ Own w' w.heap.size 3 .i64 (.slice (some ⟨g, 0, none⟩) n n) L ∧ Chosen n S (fun i => L.getD i 0) T ∧ Below w.heap.size w w'
theorem getD_of (xs : List Int) (i : Nat) : xs[i]?.getD 0 = xs.getD i 0 := rfl

set_option maxRecDepth 100000 in
set_option maxHeartbeats 12800000 in
theorem choose_any (g : Nat) (ms : List (Nat × Nat)) (w : World) (hn : ms.length ≤ 4000) (hs : ∀ i, i < ms.length → i + (ms.getD i (0, 0)).1 ≤ ms.length) (hr : MatAt w g ms) :
    Calls Try.prog 14 #[.slice (some ⟨g, 0, none⟩) ms.length ms.length] w (Choice ms.length (fun i => (ms.getD i (0, 0)).1) w) := by
  have hg := Block.lt hr
  have HC := Lib.hid (fun (W : World) (hb : Below w.heap.size w W) i (hi : i < ms.length) => (MatAt.cells (Block.below hr hb hg) hi).1)
  obtain ⟨S, hS⟩ : ∃ S : Nat → Nat, (fun i => (ms.getD i (0, 0)).1) = S := ⟨_, rfl⟩
  have HS : Hid (∀ i, (ms.getD i (0, 0)).1 = S i) := Lib.hid (fun i => by rw [← hS])
  have hs2 : ∀ i, i < ms.length → i + S i ≤ ms.length := fun i hi => by rw [← hS]; exact hs i hi
  have HS2 := Lib.hid hs2
  rw [hS]
  generalize ms.length = n at *
  clear hs hs2 hS hr
  go_enter Try.func14, Try.ntmps14
  go_wp2_with (first
    | (at_make; refine wpList_make_ints _ rfl (.tmp 8) (.tmp 8) _ rfl elemI n n rfl rfl rfl rfl (Nat.le_refl _) (by omega) ?_; intro w1 O1 b1 z1)
    | (have _t := O1; at_make; refine wpList_make_ints _ rfl (.tmp 12) (.tmp 12) _ rfl elemI (n + 1) (n + 1) rfl rfl (by omega) (by omega) (Nat.le_refl _) (by omega) ?_; clear _t; intro w2 O2 b2 z2))
  have hb2 : Below w.heap.size w w2 := b1.trans (b2.mono b1.size)
  have OL0 := O1.below b2
  have OT0 := O2.mono b1.size
  obtain ⟨a, ha⟩ : ∃ a, a = w.heap.size := ⟨_, rfl⟩
  obtain ⟨c, hc⟩ : ∃ c, c = w1.heap.size := ⟨_, rfl⟩
  rw [← ha] at OL0 OT0 hb2 z1 HC hg ⊢
  rw [← hc] at OT0 z1 ⊢
  have hac : a < c := z1
  have HAA := Lib.hid ha
  clear O1 O2 b1 b2 z1 z2 ha hc
  go_loopw [5] (fun v wr => ∃ (z : Int) (L T : List Int), v = .int .i64 z ∧ -1 ≤ z ∧ z < n ∧ ChI n S z L T ∧ Own wr a 3 .i64 (.slice (some ⟨a, 0, none⟩) n n) L ∧ Own wr a 3 .i64 (.slice (some ⟨c, 0, none⟩) (n + 1) (n + 1)) T ∧ Below a w wr) (fun v _ => (intOf v + 1).toNat)
  case atStart => exact ⟨(n : Int) - 1, _, _, rfl, by omega, by omega, ChI.start n S, OL0, OT0, hb2⟩
  case round =>
    clear OL0 OT0 hb2
    obtain ⟨z, L, T, rfl, hz1, hz2, C, OL, OT, B⟩ := hrel
    obtain ⟨wo, rfl⟩ : ∃ wo : World, wo = wr := ⟨_, rfl⟩
    by_cases hz0 : 0 ≤ z
    · obtain ⟨i, rfl⟩ : ∃ i : Nat, z = i := ⟨z.toNat, by omega⟩
      have hin : i < n := by omega
      have d0 : decide ((0 : Int) ≤ (i : Int)) = true := decide_eq_true (by omega)
      have i1 : (i : Int) < (n : Int) := by omega
      have hll := Lib.hid C.ll
      have htl := Lib.hid C.tl
      have q0 := OL.cellAt hll.out.symm (i := i) (by rw [hll.out]; exact hin)
      have f0 := OL.frozenAt hll.out.symm i
      obtain ⟨OL1, gL⟩ := OL.stored hll.out.symm i 1
      have OT1 := OT.kept gL (.inr (by simp [Value.ownBlock]; omega))
      have B1 : Below a w (wo.setCell ⟨a, i, none⟩ (.int .i64 1)) := B.setCell (Nat.le_refl _) _
      have q1 := HC.out _ B1 i hin
      rw [HS.out] at q1
      have C1 := C.lens hin 1
      have hL1 : (L.set i 1).getD i 0 = ((1 : Nat) : Int) := by rw [getD_set _ _ _ _ (by rw [hll.out]; exact hin), if_pos rfl]; rfl
      have HSi := Lib.hid (HS2.out i hin)
      have HB0 : Hid (Best n S i 1 (S i) T) := Lib.hid ⟨.inl rfl, Int.le_refl _, fun u h1 _ h3 => by omega⟩
      have hsi : (S i : Int) ≤ 4000 := by have := HSi.out; omega
      generalize (L[i]?.getD 0) = x0 at q0
      clear OL OT C
      have HC1 := Lib.hid C1
      have HL1 := Lib.hid hL1
      clear C1 hL1
      go_wp2_with fail
      go_loopw [6] (fun v wr => ∃ (t : Int) (l : Nat) (L : List Int), v = .int .i64 t ∧ 0 ≤ t ∧ t ≤ S i ∧ L.getD i 0 = l ∧ Best n S i l t T ∧ ChI n S i L T ∧ Own wr a 3 .i64 (.slice (some ⟨a, 0, none⟩) n n) L ∧ Own wr a 3 .i64 (.slice (some ⟨c, 0, none⟩) (n + 1) (n + 1)) T ∧ Below a w wr) (fun v _ => (intOf v).toNat)
      case atStart => exact ⟨S i, 1, _, rfl, by omega, Int.le_refl _, HL1.out, HB0.out, HC1.out, OL1, OT1, B1⟩
      case round =>
        clear OL1 OT1 B1 HB0 HL1 HC1 gL q0 f0 q1 hll htl L
        obtain ⟨t, l, L, rfl, ht0, ht1, hL, hB, C, OL, OT, B⟩ := hrel
        obtain ⟨wi, rfl⟩ : ∃ wi : World, wi = wr := ⟨_, rfl⟩
        have hll := Lib.hid C.ll
        have htl := Lib.hid C.tl
        have HBst := Lib.hid hB
        have HC2 := Lib.hid C
        have HL := Lib.hid hL
        have hlb : l ≤ n - i ∧ 1 ≤ l := by
          have := HSi.out
          rcases HBst.out.l_ with h | h <;> omega
        have hbd := C.bd (i + l) (by omega) (by omega)
        have q0 : wi.cell? ⟨a, i, none⟩ = some (.int .i64 (l : Int)) := by
          have := OL.cellAt hll.out.symm (i := i) (by rw [hll.out]; exact hin)
          rw [getD_of, HL.out] at this
          exact this
        have f0 := OL.frozenAt hll.out.symm i
        have q2 : wi.cell? ⟨c, i + l, none⟩ = some (.int .i64 (T.getD (i + l) 0)) := OT.cellAt htl.out.symm (by rw [htl.out]; omega)
        clear hL hB C
        by_cases ht3 : 3 ≤ t
        · obtain ⟨u, rfl⟩ : ∃ u : Nat, t = u := ⟨t.toNat, by omega⟩
          have hu := HSi.out
          have d1 : decide ((3 : Int) ≤ (u : Int)) = true := decide_eq_true ht3
          have q3 : wi.cell? ⟨c, i + u, none⟩ = some (.int .i64 (T.getD (i + u) 0)) := OT.cellAt htl.out.symm (by rw [htl.out]; omega)
          have p1 : IntKind.i64.wrap ((i : Int) + (u : Int)) = ((i + u : Nat) : Int) := by rw [IntWalk.i64_in _ (by omega)]; omega
          have p2 : IntKind.i64.wrap ((i : Int) + (l : Int)) = ((i + l : Nat) : Int) := by rw [IntWalk.i64_in _ (by omega)]; omega
          have l1 : i + u < n + 1 := by omega
          have l2 : i + l < n + 1 := by omega
          obtain ⟨x, hx⟩ : ∃ x, T.getD (i + u) 0 = x := ⟨_, rfl⟩
          obtain ⟨y, hy⟩ : ∃ y, T.getD (i + l) 0 = y := ⟨_, rfl⟩
          rw [hx] at q3
          rw [hy] at q2 hbd
          have HX := Lib.hid hx
          have HY := Lib.hid hy
          clear hx hy
          by_cases hxy : x < y
          · have e1 : decide (x < y) = true := decide_eq_true hxy
            obtain ⟨OL2, gL2⟩ := OL.stored hll.out.symm i u
            go_wp2_with fail
            go_quiet (fail)
            go_wp2_with fail
            go_roundw
            case rel =>
              refine ⟨(u : Int) - 1, u, L.set i u, by go_num, by omega, by omega, ?_, ?_, HC2.out.lens hin _, ?_, ?_, ?_⟩
              · rw [getD_set _ _ _ _ (by rw [hll.out]; exact hin), if_pos rfl]
              · refine ⟨.inr ⟨by omega, by omega⟩, by have := HBst.out.h1; rw [HX.out]; rw [HY.out] at this; omega, fun v h1 h2 h3 => ?_⟩
                rw [HX.out]
                by_cases hv : v = u
                · subst hv; rw [HX.out]; exact Int.le_refl _
                · have := HBst.out.h2 v (by omega) h2 h3
                  rw [HY.out] at this
                  omega
              · exact (Own.drewN OL nq |>.stored hll.out.symm i u).1
              · exact (Own.drewN OT nq).kept (Own.drewN OL nq |>.stored hll.out.symm i u).2 (.inr (by simp [Value.ownBlock]; omega))
              · exact (below_draws B nq).setCell (Nat.le_refl _) _
            case measure => simp [intOf] <;> omega
          · have e1 : decide (x < y) = false := decide_eq_false hxy
            go_wp2_with fail
            go_quiet (fail)
            go_wp2_with fail
            go_roundw
            case rel =>
              refine ⟨(u : Int) - 1, l, L, by go_num, by omega, by omega, HL.out, ?_, HC2.out, Own.drewN OL nq, Own.drewN OT nq, below_draws B nq⟩
              refine ⟨HBst.out.l_, HBst.out.h1, fun v h1 h2 h3 => ?_⟩
              by_cases hv : v = u
              · subst hv; rw [HX.out, HY.out]; omega
              · exact HBst.out.h2 v (by omega) h2 h3
            case measure => simp [intOf] <;> omega
        · have d1 : decide ((3 : Int) ≤ t) = false := decide_eq_false ht3
          have hN := HC2.out.next hin HL.out HBst.out.l_ HSi.out HBst.out.h1 (fun v h2 h3 => HBst.out.h2 v (by omega) h2 h3)
          have HN := Lib.hid hN
          have q4 := OT.cellAt htl.out.symm (i := i) (by rw [htl.out]; omega)
          have f4 := OT.frozenAt htl.out.symm i
          generalize T[i]?.getD 0 = x4 at q4
          obtain ⟨OT2, gT2⟩ := OT.stored htl.out.symm i (1 + T.getD (i + l) 0)
          have OL2 := OL.kept gT2 (.inr (by simp [Value.ownBlock]; omega))
          have HOT2 := Lib.hid OT2
          have HOL2 := Lib.hid OL2
          obtain ⟨y, hy⟩ : ∃ y, T.getD (i + l) 0 = y := ⟨_, rfl⟩
          rw [hy] at q2 hbd HOT2 HOL2 HN
          have l2 : (i : Int) + (l : Int) < (n : Int) + 1 := by omega
          have l3 : i + l < n + 1 := by omega
          clear hN OT2 OL2 gT2 hy
          go_wp2_with fail
          go_roundw
          case rel => exact ⟨(i : Int) - 1, L, _, by go_num, by omega, by omega, HN.out, HOL2.out, HOT2.out, B.setCell (by show a ≤ c; omega) _⟩
          case measure => simp [intOf] <;> omega
    · have d0 : decide ((0 : Int) ≤ z) = false := decide_eq_false hz0
      obtain rfl : z = -1 := by omega
      have HD := Lib.hid C.done
      have HLL := Lib.hid C.ll
      have HO := Lib.hid OL
      clear C OL OT
      go_wp2_with fail
      go_ret
      have e := HAA.out
      subst e
      exact ⟨_, L, _, rfl, HLL.out, HO.out, HD.out, B⟩
end Go.Proofs.Ythicgcgohpakgaa.Lz
