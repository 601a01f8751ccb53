/-
  Layer 19: container/heap over a heap of the lowest: contracts. Conditions: as each theorem names.
  Layer 19: container/heap over a heap of the lowest: up and down: contracts. Conditions: as each theorem names.
  Layer 19: container/heap over a heap of the lowest: Push and Pop: contracts. Conditions: as each theorem names.
  Layer 19: a line of blocks: its rows, and what leaves them. Conditions: as each theorem names.
  Layer 19: a line's release: a contract. Conditions: as each theorem names.
  Layer 19: a line's write: contracts. Conditions: as each theorem names.
  Layer 19: a new line of blocks: a contract. Conditions: as each theorem names.
  Layer 19: order.Of: a contract. Conditions: as each theorem names.
  Layer 19: the document's example: a contract. Conditions: as each theorem names.
-/
import Derived.Test.YtojmcjkeniepcaaMOrF
import Derived.Test.YtojmcjkeniepcaaMOrP
import Derived.Test.YtojmcjkeniepcaaMApp
import Derived.Deep.RegionLaw
import Derived.Deep.QuietTactic
import Derived.BigQuiet
import Derived.Deep.DeepCutAuto
namespace Go.Proofs.Ytojmcjkeniepcaa.Ord
open Go.ChangeShapes Go.WideShapes Go.ChangeAt Go.RowKit Go.Proofs.Ytojmcjkeniepcaa.Kit Go.Proofs.Ytojmcjkeniepcaa.Gr Go.Proofs.Ytojmcjkeniepcaa.Hp

theorem mLess0 (g : Nat) (W : World) : (method 230 79 (.pointer (some ⟨g, 4, none⟩)) "Less").run Try.prog W = ((do pure (89, ← load ⟨g, 4, none⟩)) : Sem (FuncId × Value)).run Try.prog W := by kernel_rfl
theorem mLess {g : Nat} {v : Value} {W : World} (h0 : W.cell? ⟨g, 4, none⟩ = some v) : (method 230 79 (.pointer (some ⟨g, 4, none⟩)) "Less").run Try.prog W = .ok (89, v) W := by
  rw [mLess0]
  simp [h0]

/-- A line of blocks, its struct at g; its heap is v, and holds xs. -/
structure HAt (w : World) (B g : Nat) (E W T C v : Value) (xs : List Int) : Prop where
  s : Block w g 71 #[E, W, T, C, v]
  o : Own w B 3 .i64 v xs
  B : B ≤ w.heap.size
section
variable {w w' : World} {B g : Nat} {E W T C v : Value} {xs ys : List Int}
theorem HAt.cell (h : HAt w B g E W T C v xs) : w.cell? ⟨g, 4, none⟩ = some v := by rw [h.s.cell 4]; rfl
theorem HAt.frozen (h : HAt w B g E W T C v xs) : w.frozen? ⟨g, 4, none⟩ = false := h.s.frozen 4
theorem HAt.ne (h : HAt w B g E W T C v xs) : v.ownBlock ≠ some g := h.o.ne_block h.s (by decide)
theorem HAt.grown (h : HAt w B g E W T C v xs) (hg : w.grownBy w' v.ownBlock) (ho : Own w' B 3 .i64 v ys) : HAt w' B g E W T C v ys := ⟨h.s.grown hg h.ne, ho, Nat.le_trans h.B hg.size⟩
theorem HAt.put {v' : Value} (h : HAt w B g E W T C v xs) (ho : Own w B 3 .i64 v' ys) : HAt (w.setCell ⟨g, 4, none⟩ v') B g E W T C v' ys := by
  have h1 : Block (w.setCell ⟨g, 4, none⟩ v') g 71 #[E, W, T, C, v'] := h.s.set_ 4 v'
  refine ⟨h1, ?_, by simpa [World.setCell] using h.B⟩
  have T : TurnsIn (fun b => b = g) w (w.setCell ⟨g, 4, none⟩ v') := (TurnsIn.refl (fun b => b = g) w).setCell (p := ⟨g, 4, none⟩) (.inl rfl) v'
  refine ho.out T ?_
  intro b hb e
  subst e
  exact (ho.ne_block h.s (by decide)) hb
theorem HAt.drewN (h : HAt w B g E W T C v xs) (n : Nat) : HAt (w.drewN n) B g E W T C v xs := ⟨h.s, h.o, h.B⟩
theorem HAt.len (h : HAt w B g E W T C v xs) : ∃ (A : Option Addr) (c : Nat), v = .slice A xs.length c := by obtain ⟨A, c, e, _⟩ := h.o.opened; exact ⟨A, c, e⟩
end
theorem own_at {w : World} {B : Nat} {v : Value} {xs : List Int} (h : Own w B 3 .i64 v xs) (hx : 0 < xs.length) : ∃ g c : Nat, v = .slice (some ⟨g, 0, none⟩) xs.length c ∧ g < w.heap.size ∧ xs.length ≤ c ∧ c ≤ maxLen ∧
    (∀ i, i < xs.length → w.cell? ⟨g, i, none⟩ = some (.int .i64 (xs.getD i 0))) ∧ ∀ i, w.frozen? ⟨g, i, none⟩ = false := by
  obtain ⟨g, c, rfl, _, h2, h3, h4⟩ := h.form hx
  exact ⟨g, c, rfl, h2, h3, h4, fun i hi => h.cellAt rfl hi, fun i => h.frozenAt rfl i⟩

set_option maxRecDepth 100000 in
set_option maxHeartbeats 3200000 in
theorem less_any {B : Nat} {v : Value} {xs : List Int} {w : World} (h : Own w B 3 .i64 v xs) {i j : Nat} (hi : i < xs.length) (hj : j < xs.length) :
    Calls Try.prog 89 #[v, .int .i64 i, .int .i64 j] w fun e w' => e = .returned (.bool (decide (xs.getD i 0 < xs.getD j 0))) ∧ ∃ m, w' = w.drewN m := by
  obtain ⟨g, c, rfl, h2, h3, h4, h5, h6⟩ := own_at h (by omega)
  have c1 := h5 i hi
  have c2 := h5 j hj
  obtain ⟨n, hn⟩ : ∃ n, xs.length = n := ⟨_, rfl⟩
  rw [hn] at hi hj h3 ⊢
  generalize xs.getD i 0 = x at *
  generalize xs.getD j 0 = y at *
  have d1 : decide ((i : Int) < (n : Int)) = true := decide_eq_true (by omega)
  have d2 : decide ((j : Int) < (n : Int)) = true := decide_eq_true (by omega)
  have d3 : decide (i < n) = true := decide_eq_true (by omega)
  have d4 : decide (j < n) = true := decide_eq_true (by omega)
  clear h5 h6 hn h
  go_enter Try.func89, Try.ntmps89
  go_wp2_with fail
  go_quiet (fail)
  go_wp2_with fail
  go_ret
  exact ⟨rfl, _, rfl⟩
theorem less_all {B : Nat} {v : Value} {xs : List Int} {w : World} (h : Own w B 3 .i64 v xs) {i j : Nat} (hi : i < xs.length) (hj : j < xs.length) (m : Nat) :
    Calls Try.prog 89 #[v, .int .i64 i, .int .i64 j] (w.drewN m) fun e w' => e = .returned (.bool (decide (xs.getD i 0 < xs.getD j 0))) ∧ ∃ m, w' = w.drewN m := by
  refine (less_any (h.drewN m) hi hj).mono ?_
  rintro e w' ⟨he, n, rfl⟩
  exact ⟨he, m + n, World.drewN_drewN _ _ _⟩

set_option maxRecDepth 100000 in
set_option maxHeartbeats 3200000 in
theorem swap_any {B : Nat} {v : Value} {xs : List Int} {w : World} (h : Own w B 3 .i64 v xs) {i j : Nat} (hi : i < xs.length) (hj : j < xs.length) :
    Calls Try.prog 90 #[v, .int .i64 i, .int .i64 j] w fun e w' => e = .returned (.tuple #[]) ∧ Own w' B 3 .i64 v (sw xs i j) ∧ w.grownBy w' v.ownBlock := by
  obtain ⟨g, c, rfl, h2, h3, h4, h5, h6⟩ := own_at h (by omega)
  have c1 := h5 i hi
  have c2 := h5 j hj
  have f1 := h6 i
  have f2 := h6 j
  obtain ⟨o1, g1⟩ := h.stored rfl i (xs.getD j 0)
  obtain ⟨o2, g2⟩ := o1.stored (by simp) j (xs.getD i 0)
  have c3 := o1.cellAt (by simp) (i := j) (by simpa using hj)
  have f3 := o1.frozenAt (by simp) j
  have HO := Lib.hid (fun n => o2.drewN n)
  have HG := Lib.hid (g1.andThen g2 (fun j hj => by cases hj; exact Or.inr rfl))
  have hsw : (xs.set i (xs.getD j 0)).set j (xs.getD i 0) = sw xs i j := rfl
  rw [hsw] at HO
  clear o1 o2 g1 g2 hsw
  generalize ((xs.set i (xs.getD j 0))[j]?).getD 0 = z at c3
  obtain ⟨n, hn⟩ : ∃ n, xs.length = n := ⟨_, rfl⟩
  rw [hn] at hi hj h3 HO ⊢
  generalize sw xs i j = zs at *
  generalize xs.getD i 0 = x at *
  generalize xs.getD j 0 = y at *
  have d1 : decide ((i : Int) < (n : Int)) = true := decide_eq_true (by omega)
  have d2 : decide ((j : Int) < (n : Int)) = true := decide_eq_true (by omega)
  have d3 : decide (i < n) = true := decide_eq_true (by omega)
  have d4 : decide (j < n) = true := decide_eq_true (by omega)
  clear h5 h6 hn h
  go_enter Try.func90, Try.ntmps90
  go_wp2_with fail
  go_region_law fail
  all_goals
    go_wp2_with fail
    go_end0
    exact ⟨rfl, HO.out 1, ⟨HG.out.os, HG.out.tape, HG.out.output, HG.out.size, HG.out.block⟩⟩
end Go.Proofs.Ytojmcjkeniepcaa.Ord

namespace Go.Proofs.Ytojmcjkeniepcaa.Ord
open Go.ChangeShapes Go.WideShapes Go.ChangeAt Go.RowKit Go.Proofs.Ytojmcjkeniepcaa.Kit Go.Proofs.Ytojmcjkeniepcaa.Gr Go.Proofs.Ytojmcjkeniepcaa.Hp

/-- What a heap's rows come to, while one is put in order: the same numbers, and what turned is the row alone. -/
structure Same19 (w0 w : World) (B g : Nat) (E W T C v : Value) (xs ys : List Int) : Prop where
  p : ys.Perm xs
  h : HAt w B g E W T C v ys
  g : w0.grownBy w v.ownBlock
section
variable {w0 w w' : World} {B g : Nat} {E W T C v : Value} {xs ys : List Int}
theorem grown_trans {w0 w w' : World} {r : Option Nat} (a : w0.grownBy w r) (b : w.grownBy w' r) : w0.grownBy w' r :=
  ⟨b.os.trans a.os, b.tape.trans a.tape, b.output.trans a.output, Nat.le_trans a.size b.size, fun k hk hr => (b.block k (Nat.lt_of_lt_of_le hk a.size) hr).trans (a.block k hk hr)⟩
theorem grown_drewN {w w' : World} {r : Option Nat} (a : w.grownBy w' r) (n : Nat) : w.grownBy (w'.drewN n) r := ⟨a.os, a.tape, a.output, a.size, a.block⟩
theorem Same19.start (h : HAt w B g E W T C v xs) : Same19 w w B g E W T C v xs xs := ⟨.refl _, h, World.grownBy.refl _ _⟩
theorem Same19.drewN (h : Same19 w0 w B g E W T C v xs ys) (n : Nat) : Same19 w0 (w.drewN n) B g E W T C v xs ys := ⟨h.p, h.h.drewN n, grown_drewN h.g n⟩
theorem Same19.swap {i j : Nat} (h : Same19 w0 w B g E W T C v xs ys) (hi : i < ys.length) (hj : j < ys.length) (ho : Own w' B 3 .i64 v (sw ys i j)) (hg : w.grownBy w' v.ownBlock) : Same19 w0 w' B g E W T C v xs (sw ys i j) :=
  ⟨(sw_perm hi hj).trans h.p, h.h.grown hg ho, grown_trans h.g hg⟩
end

set_option maxRecDepth 100000 in
set_option maxHeartbeats 6400000 in
theorem up_any {w : World} {B g : Nat} {E W T C v : Value} {xs : List Int} {j : Nat} (h : HAt w B g E W T C v xs) (hj : j < xs.length) (hu : UpAt xs j) (hl : xs.length ≤ 1000000) :
    Calls Try.prog 49 #[.iface 79 (.pointer (some ⟨g, 4, none⟩)), .int .i64 j] w fun e w' => e = .returned (.tuple #[]) ∧ ∃ ys, IsHeap ys ∧ Same19 w w' B g E W T C v xs ys := by
  have S0 := Same19.start h
  obtain ⟨N, hN⟩ : ∃ N, xs.length = N := ⟨_, rfl⟩
  rw [hN] at hj hl
  clear h
  go_enter Try.func49, Try.ntmps49
  go_wp2_with fail
  go_loopw [1] (fun s wr => ∃ (k : Nat) (ys : List Int), k < N ∧ ys.length = N ∧ s = .int .i64 k ∧ UpAt ys k ∧ Same19 w wr B g E W T C v xs ys) (fun s _ => (intOf s).toNat)
  case atStart => exact ⟨j, xs, hj, hN, rfl, hu, S0⟩
  case round =>
    clear S0 hu hj
    obtain ⟨k, ys, hk, hyl, rfl, hu, S⟩ := hrel
    have HY := Lib.hid hyl
    have HS := Lib.hid S
    have HU := Lib.hid hu
    have m1 := mLess S.h.cell
    by_cases h0 : k = 0
    · subst h0
      have d1 : Int.tdiv (-1) 2 = 0 := by decide
      have HH : Hid (IsHeap ys) := Lib.hid (up_done hu (fun h => absurd h (by omega)))
      clear S hu hyl
      go_wp2_with fail
      go_end0
      exact ⟨rfl, ys, HH.out, HS.out⟩
    · obtain ⟨p, hp⟩ : ∃ p, (k - 1) / 2 = p := ⟨_, rfl⟩
      have d1 : Int.tdiv ((k : Int) - 1) 2 = (p : Int) := by
        rw [show (k : Int) - 1 = ((k - 1 : Nat) : Int) by omega, ← hp]
        exact (Int.ofNat_tdiv _ _).symm
      have hpk : p < k := by omega
      have d2 : ((p : Int) == (k : Int)) = false := by rw [beq_eq_false_iff_ne]; omega
      have d3 : decide (p = k) = false := decide_eq_false (by omega)
      have HL := Lib.hid (less_any S.h.o (i := k) (j := p) (by omega) (by omega))
      have HP := Lib.hid hp
      by_cases hlt : ys.getD k 0 < ys.getD p 0
      · rw [decide_eq_true hlt] at HL
        have HN : Hid (UpAt (sw ys p k) p) := Lib.hid (by
          have := up_next hu (by omega) (by omega) (by rw [hp]; exact hlt)
          rw [hp] at this
          exact this)
        have HW := Lib.hid (fun n : Nat => swap_any (S.h.o.drewN n) (i := p) (j := k) (by omega) (by omega))
        have m2 : ∀ n : Nat, (method 230 79 (.pointer (some ⟨g, 4, none⟩)) "Swap").run Try.prog (wr.drewN n) = .ok (90, v) (wr.drewN n) := fun n => mSwap (S.h.drewN n).cell
        have HQ : Hid (∀ (n : Nat) (w2 : World), Own w2 B 3 .i64 v (sw ys p k) → (wr.drewN n).grownBy w2 v.ownBlock → Same19 w w2 B g E W T C v xs (sw ys p k)) := Lib.hid (fun n w2 a b => (S.drewN n).swap (by omega) (by omega) a b)
        clear S hu hyl hlt hp
        go_wp2_with (first
          | (go_at_call 89; refine HL.out.mono ?_; rintro e w1 ⟨rfl, n1, rfl⟩; have m3 := m2 n1; have HW2 := Lib.hid (HW.out n1))
          | (go_at_call 90; refine HW2.out.mono ?_; rintro e w2 ⟨rfl, o2, g2⟩; have HQ2 := Lib.hid (HQ.out _ _ o2 g2)))
        go_roundw
        case rel => exact ⟨p, sw ys p k, by omega, by rw [sw_length]; exact HY.out, by go_num, HN.out, HQ2.out⟩
        case measure => simp [intOf] <;> omega
      · rw [decide_eq_false hlt] at HL
        have HH : Hid (IsHeap ys) := Lib.hid (up_done hu (fun _ => by rw [hp]; omega))
        have HQ : Hid (∀ n, Same19 w (wr.drewN n) B g E W T C v xs ys) := Lib.hid (fun n => S.drewN n)
        clear S hu hyl hlt hp
        go_wp2_with (go_at_call 89; refine HL.out.mono ?_; rintro e w1 ⟨rfl, n1, rfl⟩; have HQ2 := Lib.hid (HQ.out n1))
        go_end0
        exact ⟨rfl, ys, HH.out, HQ2.out⟩

set_option maxRecDepth 100000 in
set_option maxHeartbeats 12800000 in
theorem down_any {w : World} {B g : Nat} {E W T C v : Value} {xs : List Int} {n : Nat} (h : HAt w B g E W T C v xs) (hn : xs.length = n + 1) (hu : DownAt xs n 0) (hl : xs.length ≤ 1000000) :
    Calls Try.prog 50 #[.iface 79 (.pointer (some ⟨g, 4, none⟩)), .int .i64 0, .int .i64 n] w fun e w' => (∃ b, e = .returned (.bool b)) ∧ ∃ ys, HeapTo ys n ∧ ys.getD n 0 = xs.getD n 0 ∧ Same19 w w' B g E W T C v xs ys := by
  have S0 := Same19.start h
  have hn6 : n ≤ 1000000 := by omega
  have HLST : Hid (∀ (ys : List Int) (i j : Nat), ys.length = n + 1 → i < n → j < n → (sw ys i j).getD n 0 = ys.getD n 0) := Lib.hid (fun ys i j hy hi hj => by rw [sw_getD (by omega) (by omega), if_neg (by omega), if_neg (by omega)])
  clear h
  go_enter Try.func50, Try.ntmps50
  go_wp2_with fail
  go_loopw [7] (fun s wr => ∃ (k : Nat) (ys : List Int), k ≤ n ∧ (0 < n → k < n) ∧ ys.length = n + 1 ∧ s = .int .i64 k ∧ DownAt ys n k ∧ ys.getD n 0 = xs.getD n 0 ∧ Same19 w wr B g E W T C v xs ys) (fun s _ => n - (intOf s).toNat)
  case atStart => exact ⟨0, xs, by omega, fun h => h, hn, rfl, hu, rfl, S0⟩
  case round =>
    clear S0 hu hn hl
    obtain ⟨k, ys, hk, hkn, hyl, rfl, hu, hlast, S⟩ := hrel
    have HY := Lib.hid hyl
    have HS := Lib.hid S
    have HU := Lib.hid hu
    have HLA := Lib.hid hlast
    clear hlast
    by_cases h1 : 2 * k + 1 < n
    · obtain ⟨c1, hc1⟩ : ∃ c1, 2 * k + 1 = c1 := ⟨_, rfl⟩
      obtain ⟨c2, hc2⟩ : ∃ c2, c1 + 1 = c2 := ⟨_, rfl⟩
      have q1 : 2 * (k : Int) + 1 = (c1 : Int) := by omega
      have q2 : (c1 : Int) + 1 = (c2 : Int) := by omega
      have d1 : decide ((n : Int) ≤ (c1 : Int)) = false := decide_eq_false (by omega)
      have d2 : decide ((c1 : Int) < 0) = false := decide_eq_false (by omega)
      have d1n : decide (n ≤ c1) = false := decide_eq_false (by omega)
      have mL0 := mLess S.h.cell
      have mL : ∀ m : Nat, (method 230 79 (.pointer (some ⟨g, 4, none⟩)) "Less").run Try.prog (wr.drewN m) = .ok (89, v) (wr.drewN m) := fun m => mLess (S.h.drewN m).cell
      have mS : ∀ m : Nat, (method 230 79 (.pointer (some ⟨g, 4, none⟩)) "Swap").run Try.prog (wr.drewN m) = .ok (90, v) (wr.drewN m) := fun m => mSwap (S.h.drewN m).cell
      have HQ2 : Hid (∀ m : Nat, Same19 w (wr.drewN m) B g E W T C v xs ys) := Lib.hid (fun m => S.drewN m)
      have step : ∀ c : Nat, (c = c1 ∨ c = c2) → c < n → ys.getD c 0 ≤ ys.getD c1 0 → (c2 < n → ys.getD c 0 ≤ ys.getD c2 0) →
          (ys.getD c 0 < ys.getD k 0 → DownAt (sw ys k c) n c) ∧ (¬ ys.getD c 0 < ys.getD k 0 → HeapTo ys n) ∧
          (∀ m : Nat, Calls Try.prog 89 #[v, .int .i64 c, .int .i64 k] (wr.drewN m) fun e w' => e = .returned (.bool (decide (ys.getD c 0 < ys.getD k 0))) ∧ ∃ m, w' = wr.drewN m) ∧
          (Calls Try.prog 89 #[v, .int .i64 c, .int .i64 k] wr fun e w' => e = .returned (.bool (decide (ys.getD c 0 < ys.getD k 0))) ∧ ∃ m, w' = wr.drewN m) ∧
          (∀ m : Nat, Calls Try.prog 90 #[v, .int .i64 k, .int .i64 c] (wr.drewN m) fun e w' => e = .returned (.tuple #[]) ∧ Own w' B 3 .i64 v (sw ys k c) ∧ (wr.drewN m).grownBy w' v.ownBlock) ∧
          (∀ (m : Nat) (w2 : World), Own w2 B 3 .i64 v (sw ys k c) → (wr.drewN m).grownBy w2 v.ownBlock → Same19 w w2 B g E W T C v xs (sw ys k c)) := by
        intro c hc hcn e1 e2
        refine ⟨fun hlt => down_next hu (by omega) (by omega) hcn hlt (by rw [hc1]; exact e1) (fun h => ?_), fun hlt => down_done hu (fun h => ?_) (fun h => ?_), fun m => less_all S.h.o (by omega) (by omega) m, less_any S.h.o (by omega) (by omega), fun m => swap_any (S.h.o.drewN m) (by omega) (by omega), fun m w2 a b => (S.drewN m).swap (by omega) (by omega) a b⟩
        · rw [show 2 * k + 2 = c2 by omega] at h ⊢; exact e2 h
        · rw [hc1]; omega
        · rw [show 2 * k + 2 = c2 by omega] at h ⊢
          have := e2 h
          omega
      by_cases h2 : c2 < n
      · have d3 : decide ((c2 : Int) < (n : Int)) = true := decide_eq_true (by omega)
        have d4 : decide (c2 < n) = true := decide_eq_true h2
        have HL1 := Lib.hid (less_any S.h.o (i := c2) (j := c1) (by omega) (by omega))
        by_cases h3 : ys.getD c2 0 < ys.getD c1 0
        · rw [decide_eq_true h3] at HL1
          obtain ⟨a1, a2, a3, a4, a5, a6⟩ := step c2 (.inr rfl) h2 (by omega) (fun _ => Int.le_refl _)
          have HNX := Lib.hid a1
          have HDN := Lib.hid a2
          have HL2 := Lib.hid a3
          have HL0 := Lib.hid a4
          have HW := Lib.hid a5
          have HQ := Lib.hid a6
          have hcn : c2 < n := by omega
          clear a1 a2 a3 a4 a5 a6 step
          by_cases hlt : ys.getD c2 0 < ys.getD k 0
          · rw [decide_eq_true hlt] at HL0 HL2
            have HN : Hid (DownAt (sw ys k c2) n c2) := Lib.hid (HNX.out hlt)
            have HLS := Lib.hid (HLST.out ys k c2 hyl (by omega) hcn)
            clear S hu hyl hlt
            go_wp2_with (first
            | (go_at_call 89; have _t := HL1; clear _t; refine HL1.out.mono ?_; rintro e w1 ⟨rfl, n1, rfl⟩; clear HL1; have m3 := mL n1; have HL3 := Lib.hid (HL2.out n1))
            | (go_at_call 89; have _t := HL3; clear _t; refine HL3.out.mono ?_; rintro e w1 ⟨rfl, n2, rfl⟩; have m4 := mS n2; have HW2 := Lib.hid (HW.out n2); have HQ3 := Lib.hid (HQ2.out n2))
            | (go_at_call 90; have _t := HW2; clear _t; refine HW2.out.mono ?_; rintro e w2 ⟨rfl, o2, g2⟩; have HQ4 := Lib.hid (HQ.out _ _ o2 g2)))
            go_roundw
            case rel => exact ⟨c2, sw ys k c2, by omega, fun _ => hcn, by rw [sw_length]; exact HY.out, by go_num, HN.out, HLS.out.trans HLA.out, HQ4.out⟩
            case measure => simp [intOf] <;> omega
          · rw [decide_eq_false hlt] at HL0 HL2
            have HH : Hid (HeapTo ys n) := Lib.hid (HDN.out hlt)
            clear S hu hyl hlt
            go_wp2_with (first
            | (go_at_call 89; have _t := HL1; clear _t; refine HL1.out.mono ?_; rintro e w1 ⟨rfl, n1, rfl⟩; clear HL1; have m3 := mL n1; have HL3 := Lib.hid (HL2.out n1))
            | (go_at_call 89; have _t := HL3; clear _t; refine HL3.out.mono ?_; rintro e w1 ⟨rfl, n2, rfl⟩; have m4 := mS n2; have HW2 := Lib.hid (HW.out n2); have HQ3 := Lib.hid (HQ2.out n2)))
            go_ret
            exact ⟨⟨_, rfl⟩, ys, HH.out, HLA.out, HQ3.out⟩
        · rw [decide_eq_false h3] at HL1
          obtain ⟨a1, a2, a3, a4, a5, a6⟩ := step c1 (.inl rfl) (by omega) (Int.le_refl _) (fun _ => by omega)
          have HNX := Lib.hid a1
          have HDN := Lib.hid a2
          have HL2 := Lib.hid a3
          have HL0 := Lib.hid a4
          have HW := Lib.hid a5
          have HQ := Lib.hid a6
          have hcn : c1 < n := by omega
          clear a1 a2 a3 a4 a5 a6 step
          by_cases hlt : ys.getD c1 0 < ys.getD k 0
          · rw [decide_eq_true hlt] at HL0 HL2
            have HN : Hid (DownAt (sw ys k c1) n c1) := Lib.hid (HNX.out hlt)
            have HLS := Lib.hid (HLST.out ys k c1 hyl (by omega) hcn)
            clear S hu hyl hlt
            go_wp2_with (first
            | (go_at_call 89; have _t := HL1; clear _t; refine HL1.out.mono ?_; rintro e w1 ⟨rfl, n1, rfl⟩; clear HL1; have m3 := mL n1; have HL3 := Lib.hid (HL2.out n1))
            | (go_at_call 89; have _t := HL3; clear _t; refine HL3.out.mono ?_; rintro e w1 ⟨rfl, n2, rfl⟩; have m4 := mS n2; have HW2 := Lib.hid (HW.out n2); have HQ3 := Lib.hid (HQ2.out n2))
            | (go_at_call 90; have _t := HW2; clear _t; refine HW2.out.mono ?_; rintro e w2 ⟨rfl, o2, g2⟩; have HQ4 := Lib.hid (HQ.out _ _ o2 g2)))
            go_roundw
            case rel => exact ⟨c1, sw ys k c1, by omega, fun _ => hcn, by rw [sw_length]; exact HY.out, by go_num, HN.out, HLS.out.trans HLA.out, HQ4.out⟩
            case measure => simp [intOf] <;> omega
          · rw [decide_eq_false hlt] at HL0 HL2
            have HH : Hid (HeapTo ys n) := Lib.hid (HDN.out hlt)
            clear S hu hyl hlt
            go_wp2_with (first
            | (go_at_call 89; have _t := HL1; clear _t; refine HL1.out.mono ?_; rintro e w1 ⟨rfl, n1, rfl⟩; clear HL1; have m3 := mL n1; have HL3 := Lib.hid (HL2.out n1))
            | (go_at_call 89; have _t := HL3; clear _t; refine HL3.out.mono ?_; rintro e w1 ⟨rfl, n2, rfl⟩; have m4 := mS n2; have HW2 := Lib.hid (HW.out n2); have HQ3 := Lib.hid (HQ2.out n2)))
            go_ret
            exact ⟨⟨_, rfl⟩, ys, HH.out, HLA.out, HQ3.out⟩
      · have d3 : decide ((c2 : Int) < (n : Int)) = false := decide_eq_false (by omega)
        have d4 : decide (c2 < n) = false := decide_eq_false h2
        obtain ⟨a1, a2, a3, a4, a5, a6⟩ := step c1 (.inl rfl) (by omega) (Int.le_refl _) (fun h => absurd h h2)
        have HNX := Lib.hid a1
        have HDN := Lib.hid a2
        have HL2 := Lib.hid a3
        have HL0 := Lib.hid a4
        have HW := Lib.hid a5
        have HQ := Lib.hid a6
        have hcn : c1 < n := by omega
        clear a1 a2 a3 a4 a5 a6 step
        by_cases hlt : ys.getD c1 0 < ys.getD k 0
        · rw [decide_eq_true hlt] at HL0 HL2
          have HN : Hid (DownAt (sw ys k c1) n c1) := Lib.hid (HNX.out hlt)
          have HLS := Lib.hid (HLST.out ys k c1 hyl (by omega) hcn)
          clear S hu hyl hlt
          go_wp2_with (first
            | (go_at_call 89; refine HL0.out.mono ?_; rintro e w1 ⟨rfl, n2, rfl⟩; have m4 := mS n2; have HW2 := Lib.hid (HW.out n2); have HQ3 := Lib.hid (HQ2.out n2))
            | (go_at_call 90; have _t := HW2; clear _t; refine HW2.out.mono ?_; rintro e w2 ⟨rfl, o2, g2⟩; have HQ4 := Lib.hid (HQ.out _ _ o2 g2)))
          go_roundw
          case rel => exact ⟨c1, sw ys k c1, by omega, fun _ => hcn, by rw [sw_length]; exact HY.out, by go_num, HN.out, HLS.out.trans HLA.out, HQ4.out⟩
          case measure => simp [intOf] <;> omega
        · rw [decide_eq_false hlt] at HL0 HL2
          have HH : Hid (HeapTo ys n) := Lib.hid (HDN.out hlt)
          clear S hu hyl hlt
          go_wp2_with (first
            | (go_at_call 89; refine HL0.out.mono ?_; rintro e w1 ⟨rfl, n2, rfl⟩; have m4 := mS n2; have HW2 := Lib.hid (HW.out n2); have HQ3 := Lib.hid (HQ2.out n2)))
          go_ret
          exact ⟨⟨_, rfl⟩, ys, HH.out, HLA.out, HQ3.out⟩
    · have d1 : decide ((n : Int) ≤ 2 * (k : Int) + 1) = true := decide_eq_true (by omega)
      have HH : Hid (HeapTo ys n) := Lib.hid (down_done hu (fun h => absurd h (by omega)) (fun h => absurd h (by omega)))
      clear S hu hyl
      go_wp2_with fail
      go_ret
      exact ⟨⟨_, rfl⟩, ys, HH.out, HLA.out, HS.out⟩
end Go.Proofs.Ytojmcjkeniepcaa.Ord

namespace Go.Proofs.Ytojmcjkeniepcaa.Ord
open Go.ChangeShapes Go.WideShapes Go.ChangeAt Go.RowKit Go.Proofs.Ytojmcjkeniepcaa.Kit Go.Proofs.Ytojmcjkeniepcaa.Gr Go.Proofs.Ytojmcjkeniepcaa.Hp

/-- What one call leaves of a line's heap. -/
structure Turned19 (w w' : World) (B g : Nat) (E W T C v v' : Value) (ys : List Int) : Prop where
  h : HAt w' B g E W T C v' ys
  t : TurnsIn (fun b => b = g ∨ v.ownBlock = some b) w w'
  n : Newer w v v'
theorem turned_put {w w1 : World} {B g : Nat} {E W T C v v' : Value} {xs ys : List Int} (h : HAt w1 B g E W T C v xs) (ho : Own w1 B 3 .i64 v' ys) (ht : TurnsIn (fun b => b = g ∨ v.ownBlock = some b) w w1) (hn : Newer w v v') :
    Turned19 w (w1.setCell ⟨g, 4, none⟩ v') B g E W T C v v' ys := ⟨h.put ho, ht.setCell (.inl (.inl rfl)) v', hn⟩
theorem turned_same {w w1 w2 : World} {B g : Nat} {E W T C v v' : Value} {xs ys : List Int} (h : Turned19 w w1 B g E W T C v v' xs) (hs : Same19 w1 w2 B g E W T C v' xs ys) : Turned19 w w2 B g E W T C v v' ys := by
  refine ⟨hs.h, h.t.then_ (TurnsIn.ofGrown hs.g (S := fun b => v'.ownBlock = some b) fun b hb => hb) ?_, h.n⟩
  intro b hb hv
  rcases h.n with hn | hn
  · exact .inr (hn ▸ hv)
  · have := hn b hv
    omega
theorem own_cut {w : World} {B : Nat} {e : TypeId} {k : IntKind} {g n c m : Nat} {xs : List Int} (h : Own w B e k (.slice (some ⟨g, 0, none⟩) n c) xs) (hn : n = xs.length) (hm : m ≤ n) : Own w B e k (.slice (some ⟨g, 0, none⟩) m c) (xs.take m) := by
  subst hn
  have hml : (xs.take m).length = m := by rw [List.length_take]; omega
  unfold Own
  rw [hml]
  rcases h.2 with ⟨h0, _⟩ | ⟨g', cap, cur, e', hb, hg, hnc, hcm, hcs, htake⟩
  · cases h0
  · injection e' with e1 e2 e3
    injection e1 with e1
    injection e1 with e1
    subst e1; subst e3
    refine ⟨by simp [hm], .inr ⟨_, _, cur, rfl, hb, hg, by omega, hcm, hcs, ?_⟩⟩
    rw [← List.map_take.symm, ← htake, List.take_take]
    congr 1
    omega

set_option maxRecDepth 100000 in
set_option maxHeartbeats 3200000 in
theorem lpush_any {w : World} {B g : Nat} {E W T C v : Value} {xs : List Int} (x : Int) (h : HAt w B g E W T C v xs) (hl : xs.length ≤ 1000000) :
    Calls Try.prog 92 #[.pointer (some ⟨g, 4, none⟩), .iface 3 (.int .i64 x)] w fun e w' => e = .returned (.tuple #[]) ∧ ∃ v', Turned19 w w' B g E W T C v v' (xs ++ [x]) := by
  have hta := assert_int x
  have hB := h.B
  have c0 := h.cell
  obtain ⟨A, c, rfl⟩ := h.len
  have HO := Lib.hid h.o
  have HK : Hid (∀ (A' : Option Addr) (c' : Nat) (w1 : World), Own w1 B 3 .i64 (.slice A' (xs.length + 1) c') (xs ++ [x]) → TurnsIn (fun b => (Value.slice A xs.length c).ownBlock = some b) w w1 → Newer w (.slice A xs.length c) (.slice A' (xs.length + 1) c') →
      w1.cell? ⟨g, 4, none⟩ = some (.slice A xs.length c) ∧ w1.frozen? ⟨g, 4, none⟩ = false ∧ Turned19 w (w1.setCell ⟨g, 4, none⟩ (.slice A' (xs.length + 1) c')) B g E W T C (.slice A xs.length c) (.slice A' (xs.length + 1) c') (xs ++ [x])) := Lib.hid fun A' c' w1 ho ht hn => by
    have hb : Block w1 g 71 #[E, W, T, C, .slice A xs.length c] := h.s.out ht h.ne
    refine ⟨by rw [hb.cell 4]; rfl, hb.frozen 4, ?_, ?_, hn⟩
    · have h1 : Block (w1.setCell ⟨g, 4, none⟩ (.slice A' (xs.length + 1) c')) g 71 #[E, W, T, C, .slice A' (xs.length + 1) c'] := hb.set_ 4 _
      refine ⟨h1, ?_, by simpa [World.setCell] using Nat.le_trans h.B ht.size⟩
      have T : TurnsIn (fun b => b = g) w1 (w1.setCell ⟨g, 4, none⟩ (.slice A' (xs.length + 1) c')) := (TurnsIn.refl (fun b => b = g) w1).setCell (p := ⟨g, 4, none⟩) (.inl rfl) _
      refine ho.out T ?_
      intro b hb2 e
      subst e
      exact (ho.ne_block hb (by decide)) hb2
    · exact (ht.mono fun b _ h => .inr h).setCell (.inl (.inl rfl)) _
  clear h
  go_enter Try.func92, Try.ntmps92
  go_wp2_with (at_builtin; refine wpList_append_one_out (z := x) _ rfl _ _ _ rfl elemL HO.out rfl rfl (by omega) hB ?_; intro A' c' w3 own3 t3 n3; obtain ⟨q1, q2, q3⟩ := HK.out _ _ _ own3 t3 n3; have HQ := Lib.hid q3; clear q3 own3 t3 n3)
  go_end0
  exact ⟨rfl, _, HQ.out⟩

set_option maxRecDepth 100000 in
set_option maxHeartbeats 3200000 in
theorem lpop_any {w : World} {B g m : Nat} {E W T C v : Value} {xs : List Int} (h : HAt w B g E W T C v xs) (hm : xs.length = m + 1) (hl : m ≤ 1000000) :
    Calls Try.prog 91 #[.pointer (some ⟨g, 4, none⟩)] w fun e w' => e = .returned (.iface 3 (.int .i64 (xs.getD m 0))) ∧ ∃ v', Turned19 w w' B g E W T C v v' (xs.take m) := by
  have c0 := h.cell
  have f0 := h.frozen
  obtain ⟨a, c, rfl, k1, k2, k3, k4, k5⟩ := own_at h.o (by omega)
  have c1 := k4 m (by omega)
  have HQ : Hid (Turned19 w (w.setCell ⟨g, 4, none⟩ (.slice (some ⟨a, 0, none⟩) m c)) B g E W T C (.slice (some ⟨a, 0, none⟩) xs.length c) (.slice (some ⟨a, 0, none⟩) m c) (xs.take m)) := Lib.hid (turned_put h (own_cut h.o rfl (by omega)) (.refl _ _) (.inl rfl))
  rw [hm] at HQ c0 k2 ⊢
  have i1 : (m : Int) < (m : Int) + 1 := by omega
  have i2 : (m : Int) ≤ (c : Int) := by omega
  generalize xs.getD m 0 = x at *
  clear h k4 k5 hm
  go_enter Try.func91, Try.ntmps91
  go_wp2_with fail
  go_ret
  exact ⟨rfl, _, HQ.out⟩

set_option maxRecDepth 100000 in
set_option maxHeartbeats 3200000 in
theorem hpush_any {w : World} {B g : Nat} {E W T C v : Value} {xs : List Int} (x : Int) (h : HAt w B g E W T C v xs) (hh : IsHeap xs) (hl : xs.length ≤ 100000) :
    Calls Try.prog 43 #[.iface 79 (.pointer (some ⟨g, 4, none⟩)), .iface 3 (.int .i64 x)] w fun e w' => e = .returned (.tuple #[]) ∧ ∃ v' ys, PushR xs x ys ∧ Turned19 w w' B g E W T C v v' ys := by
  have m1 := mPush g w
  have GP := Lib.hid (lpush_any x h (by omega))
  have HU := Lib.hid (up_start x hh)
  have HUP := Lib.hid (fun (w1 : World) (v1 : Value) (h1 : HAt w1 B g E W T C v1 (xs ++ [x])) (hu : UpAt (xs ++ [x]) xs.length) => up_any (j := xs.length) h1 (by simp) hu (by simp; omega))
  clear h
  go_enter Try.func43, Try.ntmps43
  go_wp2_with (first
    | (go_at_call 92; refine GP.out.mono ?_; rintro e w1 ⟨rfl, v1, t1⟩; have HT := Lib.hid t1; have m2 := mLen t1.h.cell; have HU2 := Lib.hid (HUP.out _ _ t1.h HU.out); obtain ⟨A1, c1, e1⟩ := t1.h.len; rw [List.length_append, List.length_singleton] at e1; clear t1; subst e1)
    | (go_at_call 44; refine (len_any _ (xs.length + 1) _ _).mono ?_; rintro e w4 ⟨rfl, rfl⟩)
    | (go_at_call 49; have _t := HU2; clear _t; refine HU2.out.mono ?_; rintro e w5 ⟨rfl, ys, y1, y2⟩; have HY1 := Lib.hid y1; have HY2 := Lib.hid y2; clear y1 y2))
  go_end0
  exact ⟨rfl, _, ys, ⟨HY1.out, HY2.out.p.trans (perm_snoc _ _)⟩, turned_same HT.out HY2.out⟩

set_option maxRecDepth 100000 in
set_option maxHeartbeats 3200000 in
theorem hpop_any {w : World} {B g m : Nat} {E W T C v : Value} {xs : List Int} (h : HAt w B g E W T C v xs) (hh : IsHeap xs) (hm : xs.length = m + 1) (hl : m ≤ 100000) :
    Calls Try.prog 45 #[.iface 79 (.pointer (some ⟨g, 4, none⟩))] w fun e w' => ∃ x v' ys, e = .returned (.iface 3 (.int .i64 x)) ∧ PopR xs x ys ∧ Turned19 w w' B g E W T C v v' ys := by
  have m1 := mLen h.cell
  have m2 := mSwap h.cell
  have HH := Lib.hid h
  have GS := Lib.hid (swap_any h.o (i := 0) (j := m) (by omega) (by omega))
  have HD := Lib.hid (down_start hh hm)
  have HX0 : Hid ((sw xs 0 m).getD m 0 = xs.getD 0 0) := Lib.hid (by rw [sw_getD (by omega) (by omega), if_pos rfl])
  have HSP := Lib.hid (sw_perm (xs := xs) (i := 0) (j := m) (by omega) (by omega))
  have GD := Lib.hid (fun (w1 : World) (h1 : HAt w1 B g E W T C v (sw xs 0 m)) => down_any (n := m) h1 (by rw [sw_length]; exact hm) HD.out (by rw [sw_length]; omega))
  have GP := Lib.hid (fun (w1 : World) (ys : List Int) (h1 : HAt w1 B g E W T C v ys) (hy : ys.length = m + 1) => lpop_any h1 hy (by omega))
  have HM := Lib.hid hm
  have HHH := Lib.hid hh
  obtain ⟨A, c, e0⟩ := h.len
  rw [hm] at e0
  clear hm hh h
  subst e0
  go_enter Try.func45, Try.ntmps45
  go_wp2_with (first
    | (go_at_call 44; refine (len_any _ (m + 1) _ _).mono ?_; rintro e w1 ⟨rfl, rfl⟩)
    | (go_at_call 90; refine GS.out.mono ?_; rintro e w2 ⟨rfl, o2, g2⟩; have HA := Lib.hid (HH.out.grown g2 o2); have HG2 := Lib.hid g2; have GD2 := Lib.hid (GD.out _ HA.out); clear o2 g2)
    | (go_at_call 50; have _t := GD2; clear _t; refine GD2.out.mono ?_; rintro e w3 ⟨⟨b3, rfl⟩, ys, y1, y2, y3⟩; have HY1 := Lib.hid y1; have HY2 := Lib.hid y2; have HY3 := Lib.hid y3; have m3 := mPop g w3; have GP2 := Lib.hid (GP.out _ _ y3.h (by rw [y3.p.length_eq, sw_length]; exact HM.out)); clear y1 y2 y3)
    | (go_at_call 91; have _t := GP2; clear _t; refine GP2.out.mono ?_; rintro e w4 ⟨rfl, v4, t4⟩; have HT4 := Lib.hid t4; clear t4))
  go_ret
  refine ⟨_, v4, _, rfl, pop_of HM.out HHH.out HY1.out (HY3.out.p.trans HSP.out) (HY2.out.trans HX0.out), HT4.out.h, ?_, HT4.out.n.elim .inl fun h => .inr fun b hb => ?_⟩
  · refine TurnsIn.trans (TurnsIn.ofGrown HG2.out fun b hb => .inr hb) ?_
    refine TurnsIn.trans (TurnsIn.ofGrown HY3.out.g fun b hb => .inr hb) ?_
    exact HT4.out.t
  · exact Nat.le_trans (Nat.le_trans HG2.out.size HY3.out.g.size) (h b hb)
end Go.Proofs.Ytojmcjkeniepcaa.Ord

namespace Go.Proofs.Ytojmcjkeniepcaa.Ord
open Go.ChangeShapes Go.WideShapes Go.ChangeAt Go.RowKit Go.Proofs.Ytojmcjkeniepcaa.Kit Go.Proofs.Ytojmcjkeniepcaa.Gr Go.Proofs.Ytojmcjkeniepcaa.Hp

/-- A line: its struct at g, its rows at a (waits), t (written), c (broken), its heap v. -/
structure LineAt (w : World) (B g a t c n : Nat) (E v : Value) (ws o b hs : List Int) : Prop where
  h : HAt w B g E (.slice (some ⟨a, 0, none⟩) n n) (.slice (some ⟨t, 0, none⟩) n n) (.slice (some ⟨c, 0, none⟩) n n) v hs
  wl : ws.length = n
  wa : Own w B 3 .i64 (.slice (some ⟨a, 0, none⟩) n n) ws
  ne : v.ownBlock ≠ some a
  wt : w.rowIs t 4 n (thereF o)
  wc : w.rowIs c 4 n (thereF b)
  tc : t ≠ c
  ge : B ≤ g ∧ B ≤ t ∧ B ≤ c
/-- The blocks that a line may turn. -/
def LineS (g a t c : Nat) (v : Value) (b : Nat) : Prop := b = g ∨ b = a ∨ b = t ∨ b = c ∨ v.ownBlock = some b
section
variable {w w' : World} {B g a t c n : Nat} {E v v' : Value} {ws o b hs hs' : List Int}
theorem rowIs_ne {k : Nat} {e : TypeId} {f : Nat → Value} {cs : Array Value} {g : Nat} {ty : TypeId} (h : w.rowIs k e n f) (hg : Block w g ty cs) (hne : e ≠ ty) : k ≠ g := by
  obtain ⟨c, hb, _⟩ := h
  intro e
  subst e
  unfold Block at hg
  rw [hb] at hg
  injection hg with hg
  injection hg with _ ht
  exact hne ht
theorem rowIs_own {k : Nat} {e : TypeId} {f : Nat → Value} (h : w.rowIs k e n f) (ho : Own w B 3 .i64 v hs) (hne : 3 ≠ e) : v.ownBlock ≠ some k := by
  obtain ⟨c, hb, _⟩ := h
  exact ho.ne_block hb hne
theorem LineAt.ag (h : LineAt w B g a t c n E v ws o b hs) : a ≠ g := by
  have := h.wa.ne_block h.h.s (by decide)
  intro e
  exact this (by rw [e]; rfl)
theorem LineAt.ta (h : LineAt w B g a t c n E v ws o b hs) : t ≠ a := fun e => rowIs_own h.wt h.wa (by decide) (by rw [e]; rfl)
theorem LineAt.ca (h : LineAt w B g a t c n E v ws o b hs) : c ≠ a := fun e => rowIs_own h.wc h.wa (by decide) (by rw [e]; rfl)
theorem LineAt.tg (h : LineAt w B g a t c n E v ws o b hs) : t ≠ g := rowIs_ne h.wt h.h.s (by decide)
theorem LineAt.cg (h : LineAt w B g a t c n E v ws o b hs) : c ≠ g := rowIs_ne h.wc h.h.s (by decide)
theorem LineAt.vt (h : LineAt w B g a t c n E v ws o b hs) : v.ownBlock ≠ some t := rowIs_own h.wt h.h.o (by decide)
theorem LineAt.vc (h : LineAt w B g a t c n E v ws o b hs) : v.ownBlock ≠ some c := rowIs_own h.wc h.h.o (by decide)
theorem LineAt.alt (h : LineAt w B g a t c n E v ws o b hs) : a < w.heap.size := (h.wa.lt a rfl).2
theorem LineAt.Ba (h : LineAt w B g a t c n E v ws o b hs) : B ≤ a := (h.wa.lt a rfl).1
theorem LineAt.S_ge (h : LineAt w B g a t c n E v ws o b hs) : ∀ k, k < B → ¬ LineS g a t c v k := by
  intro k hk hs
  have h1 := h.ge
  have h2 := h.Ba
  rcases hs with e | e | e | e | e
  · omega
  · omega
  · omega
  · omega
  · have := (h.h.o.lt k e).1; omega
/-- Whatever turns elsewhere. -/
theorem LineAt.out {S : Nat → Prop} (h : LineAt w B g a t c n E v ws o b hs) (ho : TurnsIn S w w') (hn : ∀ k, LineS g a t c v k → ¬ S k) : LineAt w' B g a t c n E v ws o b hs :=
  ⟨⟨h.h.s.out ho (hn g (.inl rfl)), h.h.o.out ho (fun k hk => hn k (.inr (.inr (.inr (.inr hk))))), Nat.le_trans h.h.B ho.size⟩, h.wl,
    h.wa.out ho (fun k hk => hn k (.inr (.inl (by injection hk with hk; exact hk.symm)))), h.ne,
    h.wt.of_block (ho.block t h.wt.lt (hn t (.inr (.inr (.inl rfl))))), h.wc.of_block (ho.block c h.wc.lt (hn c (.inr (.inr (.inr (.inl rfl)))))), h.tc, h.ge⟩

/-- What calls leave of a line. -/
structure LMove (w w' : World) (B g a t c n : Nat) (E v v' : Value) (ws o b hs : List Int) : Prop where
  L : LineAt w' B g a t c n E v' ws o b hs
  T : TurnsIn (LineS g a t c v) w w'
  N : Newer w v v'
theorem LMove.start (h : LineAt w B g a t c n E v ws o b hs) : LMove w w B g a t c n E v v ws o b hs := ⟨h, .refl _ _, .refl _ _⟩
theorem LMove.trans {w1 w2 : World} {v1 v2 : Value} {ws1 o1 b1 hs1 ws2 o2 b2 hs2 : List Int} (h : LMove w w1 B g a t c n E v v1 ws1 o1 b1 hs1) (k : LMove w1 w2 B g a t c n E v1 v2 ws2 o2 b2 hs2) : LMove w w2 B g a t c n E v v2 ws2 o2 b2 hs2 := by
  refine ⟨k.L, h.T.then_ k.T ?_, h.N.trans h.T.size k.N⟩
  intro j hj hs
  rcases hs with e | e | e | e | e
  · exact .inl e
  · exact .inr (.inl e)
  · exact .inr (.inr (.inl e))
  · exact .inr (.inr (.inr (.inl e)))
  · rcases h.N with hn | hn
    · exact .inr (.inr (.inr (.inr (hn ▸ e))))
    · have := hn j e
      omega
theorem LMove.below (h : LMove w w' B g a t c n E v v' ws o b hs) {ws0 o0 b0 hs0 : List Int} (h0 : LineAt w B g a t c n E v ws0 o0 b0 hs0) : Below B w w' := h.T.toBelow h0.h.B h0.S_ge

/-- The heap was turned. -/
theorem LineAt.turned (h : LineAt w B g a t c n E v ws o b hs) (k : Turned19 w w' B g E (.slice (some ⟨a, 0, none⟩) n n) (.slice (some ⟨t, 0, none⟩) n n) (.slice (some ⟨c, 0, none⟩) n n) v v' hs') : LMove w w' B g a t c n E v v' ws o b hs' := by
  have n1 : ∀ j, j = a ∨ j = t ∨ j = c → ¬ (j = g ∨ v.ownBlock = some j) := by
    rintro j (rfl | rfl | rfl)
    · rintro (e | e)
      · exact h.ag e
      · exact h.ne e
    · rintro (e | e)
      · exact h.tg e
      · exact h.vt e
    · rintro (e | e)
      · exact h.cg e
      · exact h.vc e
  refine ⟨⟨k.h, h.wl, h.wa.out k.t (fun j hj => n1 j (.inl (by injection hj with hj; exact hj.symm))), k.n.apart (u := .slice (some ⟨a, 0, none⟩) n n) rfl h.alt h.ne,
    h.wt.of_block (k.t.block t h.wt.lt (n1 t (.inr (.inl rfl)))), h.wc.of_block (k.t.block c h.wc.lt (n1 c (.inr (.inr rfl)))), h.tc, h.ge⟩, k.t.mono ?_, k.n⟩
  rintro j _ (e | e)
  · exact .inl e
  · exact .inr (.inr (.inr (.inr e)))
/-- waits[j] = z. -/
theorem LineAt.wait (h : LineAt w B g a t c n E v ws o b hs) (j : Nat) (z : Int) : LMove w (w.setCell ⟨a, j, none⟩ (.int .i64 z)) B g a t c n E v v (ws.set j z) o b hs := by
  obtain ⟨o1, g1⟩ := h.wa.stored h.wl.symm j z
  have T : TurnsIn (fun k => k = a) w (w.setCell ⟨a, j, none⟩ (.int .i64 z)) := (TurnsIn.refl (fun k => k = a) w).setCell (p := ⟨a, j, none⟩) (.inl rfl) _
  refine ⟨⟨⟨h.h.s.out T h.ag.symm, h.h.o.out T (fun k hk e => h.ne (e ▸ hk)), Nat.le_trans h.h.B T.size⟩, by rw [List.length_set]; exact h.wl, o1, h.ne,
    h.wt.of_block (T.block t h.wt.lt h.ta), h.wc.of_block (T.block c h.wc.lt h.ca), h.tc, h.ge⟩, T.mono (fun k _ e => .inr (.inl e)), .refl _ _⟩
/-- written[j] = true. -/
theorem LineAt.wrote (h : LineAt w B g a t c n E v ws o b hs) (j : Nat) : LMove w (w.setCell ⟨t, j, none⟩ (.bool true)) B g a t c n E v v ws (o ++ [(j : Int)]) b hs := by
  have T : TurnsIn (fun k => k = t) w (w.setCell ⟨t, j, none⟩ (.bool true)) := (TurnsIn.refl (fun k => k = t) w).setCell (p := ⟨t, j, none⟩) (.inl rfl) _
  refine ⟨⟨⟨h.h.s.out T h.tg.symm, h.h.o.out T (fun k hk e => h.vt (e ▸ hk)), Nat.le_trans h.h.B T.size⟩, h.wl, h.wa.out T (fun k hk e => by injection hk with hk; exact h.ta (by rw [← e]; exact hk.symm)), h.ne,
    there_put h.wt j, h.wc.of_block (T.block c h.wc.lt h.tc.symm), h.tc, h.ge⟩, T.mono (fun k _ e => .inr (.inr (.inl e))), .refl _ _⟩
/-- broken[j] = true. -/
theorem LineAt.broke (h : LineAt w B g a t c n E v ws o b hs) (j : Nat) : LMove w (w.setCell ⟨c, j, none⟩ (.bool true)) B g a t c n E v v ws o (b ++ [(j : Int)]) hs := by
  have T : TurnsIn (fun k => k = c) w (w.setCell ⟨c, j, none⟩ (.bool true)) := (TurnsIn.refl (fun k => k = c) w).setCell (p := ⟨c, j, none⟩) (.inl rfl) _
  refine ⟨⟨⟨h.h.s.out T h.cg.symm, h.h.o.out T (fun k hk e => h.vc (e ▸ hk)), Nat.le_trans h.h.B T.size⟩, h.wl, h.wa.out T (fun k hk e => by injection hk with hk; exact h.ca (by rw [← e]; exact hk.symm)), h.ne,
    h.wt.of_block (T.block t h.wt.lt h.tc), there_put h.wc j, h.tc, h.ge⟩, T.mono (fun k _ e => .inr (.inr (.inr (.inl e)))), .refl _ _⟩
theorem LineAt.c0 (h : LineAt w B g a t c n E v ws o b hs) : w.cell? ⟨g, 0, none⟩ = some E := by rw [h.h.s.cell 0]; rfl
theorem LineAt.c1 (h : LineAt w B g a t c n E v ws o b hs) : w.cell? ⟨g, 1, none⟩ = some (.slice (some ⟨a, 0, none⟩) n n) := by rw [h.h.s.cell 1]; rfl
theorem LineAt.c2 (h : LineAt w B g a t c n E v ws o b hs) : w.cell? ⟨g, 2, none⟩ = some (.slice (some ⟨t, 0, none⟩) n n) := by rw [h.h.s.cell 2]; rfl
theorem LineAt.c3 (h : LineAt w B g a t c n E v ws o b hs) : w.cell? ⟨g, 3, none⟩ = some (.slice (some ⟨c, 0, none⟩) n n) := by rw [h.h.s.cell 3]; rfl
theorem LineAt.ca_ (h : LineAt w B g a t c n E v ws o b hs) {j : Nat} (hj : j < n) : w.cell? ⟨a, j, none⟩ = some (.int .i64 (ws.getD j 0)) := h.wa.cellAt h.wl.symm (by rw [h.wl]; exact hj)
theorem LineAt.fa (h : LineAt w B g a t c n E v ws o b hs) (j : Nat) : w.frozen? ⟨a, j, none⟩ = false := h.wa.frozenAt h.wl.symm j
end
end Go.Proofs.Ytojmcjkeniepcaa.Ord

namespace Go.Proofs.Ytojmcjkeniepcaa.Ord
open Go.ChangeShapes Go.WideShapes Go.ChangeAt Go.RowKit Go.Proofs.Ytojmcjkeniepcaa.Kit Go.Proofs.Ytojmcjkeniepcaa.Gr Go.Proofs.Ytojmcjkeniepcaa.Hp Go.Proofs.Ytojmcjkeniepcaa.Ordr

theorem relH_snoc (ws E : List Int) (j : Nat) : relH ws (E ++ [(j : Int)]) = relH ws E ++ if ws.getD j 0 = 1 then [(j : Int)] else [] := by
  unfold relH
  rw [List.filter_append]
  congr 1
  by_cases h : ws.getD j 0 = 1
  · rw [if_pos h]
    simp only [List.filter_cons, Int.toNat_natCast, decide_eq_true h, if_true, List.filter_nil]
  · rw [if_neg h]
    simp only [List.filter_cons, Int.toNat_natCast, decide_eq_false h, List.filter_nil]
    rfl
theorem relH_length (ws E : List Int) : (relH ws E).length ≤ E.length := List.length_filter_le _ _
/-- What release leaves. -/
def Released (w w' : World) (B g a t c n : Nat) (E v : Value) (ws o b hs zs : List Int) : Prop := ∃ v' hs', LMove w w' B g a t c n E v v' (relW ws zs) o b hs' ∧ IsHeap hs' ∧ hs'.Perm (hs ++ relH ws zs)

set_option maxRecDepth 100000 in
set_option maxHeartbeats 6400000 in
theorem release_any {w : World} {B g a t c : Nat} {A : Option Addr} {rs : List Ri} {cE : Nat} {v : Value} {ws o b hs : List Int} {i : Nat} (h : LineAt w B g a t c rs.length (.slice A rs.length cE) v ws o b hs) (hr : HoldsI w B A rs) (hi : i < rs.length) (hn : rs.length ≤ 4096)
    (hR : rs[i].zs.Nodup) (hin : ∀ x ∈ rs[i].zs, ∃ k : Nat, k < rs.length ∧ x = k ∧ 1 ≤ ws.getD k 0 ∧ ws.getD k 0 ≤ 5000) (hh : IsHeap hs) (hl : hs.length ≤ 5000) :
    Calls Try.prog 37 #[.pointer (some ⟨g, 0, none⟩), .int .i64 i] w fun e w' => e = .returned (.tuple #[]) ∧ Released w w' B g a t c rs.length (.slice A rs.length cE) v ws o b hs rs[i].zs := by
  obtain ⟨b0, off, rfl, -, c1, -, -, -, hz⟩ := riAt hr hi
  have c0 := h.c0
  have HZ := Lib.hid (fun W (hb : Below B w W) => hz.below hb)
  have HB := Lib.hid (fun W v' ws' o' b' hs' (m : LMove w W B g a t c rs.length (.slice (some ⟨b0, off, none⟩) rs.length cE) v v' ws' o' b' hs') => m.below h)
  have HM0 := Lib.hid (LMove.start h)
  have i1 : (i : Int) < (rs.length : Int) := by omega
  have hzl : rs[i].zs.length ≤ rs.length := good_len ⟨fun x hx => by obtain ⟨k, hk, rfl, _⟩ := hin x hx; omega, hR⟩
  obtain ⟨n, hnn⟩ : ∃ n, rs.length = n := ⟨_, rfl⟩
  generalize rs[i] = q at *
  obtain ⟨Aq, cq, zs⟩ := q
  simp only at hz HZ hR hin c1 hzl ⊢
  rw [hnn] at c0 HB HM0 i1 hn hzl hin hi ⊢
  have HIN : Hid (∀ k, k < zs.length → ∃ j : Nat, zs.getD k 0 = (j : Int) ∧ j < n ∧ 1 ≤ ws.getD j 0 ∧ ws.getD j 0 ≤ 5000 ∧ (j : Int) ∉ zs.take k) := Lib.hid (fun k hk => by
    have e : zs.getD k 0 = zs[k] := Hp.getD_eq hk
    obtain ⟨j, h1, h2, h3, h4⟩ := hin zs[k] (List.getElem_mem hk)
    refine ⟨j, e.trans h2, h1, h3, h4, fun hm => ?_⟩
    rw [← h2] at hm
    obtain ⟨m, hm1, hm2⟩ := List.mem_take_iff_getElem.1 hm
    exact (List.pairwise_iff_getElem.1 (List.nodup_iff_pairwise_ne.1 hR)) m k (by omega) hk (by omega) hm2)
  have HT := Lib.hid (fun (k : Nat) (h : k < zs.length) => take_nextI zs k h)
  have HE : Hid (zs.take zs.length = zs) := Lib.hid List.take_length
  have HLN : Hid (∀ (k : Nat) (hs' : List Int), k ≤ zs.length → hs'.Perm (hs ++ relH ws (zs.take k)) → hs'.length ≤ 100000) := Lib.hid (fun k hs' hk hp => by
    have h1 := hp.length_eq
    have h2 := relH_length ws (zs.take k)
    rw [List.length_append] at h1
    rw [List.length_take] at h2
    omega)
  have HP0 : Hid (hs.Perm (hs ++ relH ws (zs.take 0))) := Lib.hid (by simp [relH])
  have HW0 : Hid (relW ws (zs.take 0) = ws) := Lib.hid (by rw [List.take_zero, relW_nil])
  have HWL : Hid (ws.length = n) := Lib.hid (by rw [h.wl, hnn])
  have HH0 := Lib.hid hh
  clear h hr hz hR hin hnn hh
  go_enter Try.func37, Try.ntmps37
  go_wp2_with fail
  go_loopw [14] (fun s wr => ∃ (k : Nat) (v' : Value) (hs' : List Int), k ≤ zs.length ∧ s = .int .i64 k ∧ LMove w wr B g a t c n (.slice (some ⟨b0, off, none⟩) n cE) v v' (relW ws (zs.take k)) o b hs' ∧ IsHeap hs' ∧ hs'.Perm (hs ++ relH ws (zs.take k))) (fun s _ => zs.length - (intOf s).toNat)
  case atStart => exact ⟨0, v, hs, Nat.zero_le _, rfl, by rw [HW0.out]; exact HM0.out, HH0.out, HP0.out⟩
  case round =>
    obtain ⟨k, v', hs', hk, rfl, M, hh, hp⟩ := hrel
    have HM := Lib.hid M
    have HH := Lib.hid hh
    have HP := Lib.hid hp
    by_cases hlt : k < zs.length
    · obtain ⟨b2, off2, rfl, -, hc2⟩ := (HZ.out _ (HB.out _ _ _ _ _ _ M)) (by omega)
      have hck := hc2 k hlt
      obtain ⟨j, hj, hjn, hx1, hx2, hjt⟩ := HIN.out k hlt
      rw [hj] at hck
      have d1 : decide ((k : Int) < (zs.length : Int)) = true := decide_eq_true (by omega)
      have d2 : decide (k < zs.length) = true := decide_eq_true hlt
      have HT1 := Lib.hid (HT.out k hlt)
      rw [hj] at HT1
      have e1 : (relW ws (zs.take k)).getD j 0 = ws.getD j 0 := by rw [relW_getD (by rw [HWL.out]; exact hjn), if_neg hjt]; omega
      have M1 := M.L.wait j (ws.getD j 0 - 1)
      have e2 := relW_next (ws := ws) (by rw [HWL.out]; exact hjn) hjt
      rw [← HT1.out] at e2
      have g1 := M.L.c1
      have g2 := M.L.ca_ hjn
      have g3 := M.L.fa j
      have g4 := M1.L.c1
      have g5 := M1.L.ca_ hjn
      rw [e1] at g2
      rw [Hp.getD_set, if_pos ⟨rfl, by rw [relW_length, HWL.out]; exact hjn⟩] at g5
      rw [e2] at M1
      have HM1 := Lib.hid M1
      have HS := Lib.hid (relH_snoc ws (zs.take k) j)
      rw [← HT1.out] at HS
      have HPU := Lib.hid (hpush_any (j : Int) M1.L.h hh (HLN.out k hs' hk hp))
      have HLT : Hid (∀ (w2 : World) (v2 : Value) (ys : List Int), Turned19 (wr.setCell ⟨a, j, none⟩ (.int .i64 (ws.getD j 0 - 1))) w2 B g (.slice (some ⟨b0, off, none⟩) n cE) (.slice (some ⟨a, 0, none⟩) n n) (.slice (some ⟨t, 0, none⟩) n n) (.slice (some ⟨c, 0, none⟩) n n) v' v2 ys → LMove w w2 B g a t c n (.slice (some ⟨b0, off, none⟩) n cE) v v2 (relW ws (zs.take (k + 1))) o b ys) := Lib.hid (fun w2 v2 ys ht => (HM.out.trans HM1.out).trans (HM1.out.L.turned ht))
      generalize ws.getD j 0 = x at *
      clear M M1 hh hp hc2 hj e1 e2
      by_cases hx : x = 1
      · subst hx
        rw [if_pos rfl] at HS
        have e0 : (1 : Int) - 1 = 0 := rfl
        rw [e0] at g4 g5 HPU HLT
        clear e0
        go_wp2_with (go_at_call 43; refine HPU.out.mono ?_; rintro e w2 ⟨rfl, v2, ys, y1, y2⟩; have HY1 := Lib.hid y1; have HY2 := Lib.hid (HLT.out _ _ _ y2); clear y1 y2)
        go_roundw
        case rel => exact ⟨k + 1, v2, ys, hlt, by go_num, HY2.out, HY1.out.1, HY1.out.2.trans (by
          rw [HS.out, ← List.append_assoc]
          exact (List.perm_append_comm (l₁ := [(j : Int)])).trans (HP.out.append_right _))⟩
        case measure => simp [intOf] <;> omega
      · have d3 : (x - 1 == 0) = false := by rw [beq_eq_false_iff_ne]; omega
        have d4 : decide (x - 1 = 0) = false := decide_eq_false (by omega)
        rw [if_neg hx, List.append_nil] at HS
        clear HPU HLT
        go_wp2_with fail
        go_roundw
        case rel => exact ⟨k + 1, v', hs', hlt, by go_num, HM.out.trans HM1.out, HH.out, by rw [HS.out]; exact HP.out⟩
        case measure => simp [intOf] <;> omega
    · obtain rfl : k = zs.length := by omega
      have d1 : decide ((zs.length : Int) < (zs.length : Int)) = false := decide_eq_false (by omega)
      have d2 : decide (zs.length < zs.length) = false := decide_eq_false (by omega)
      rw [HE.out] at HM HP
      clear M hh hp
      go_wp2_with fail
      go_end0
      exact ⟨rfl, v', hs', HM.out, HH.out, HP.out⟩
end Go.Proofs.Ytojmcjkeniepcaa.Ord

namespace Go.Proofs.Ytojmcjkeniepcaa.Ord
open Go.ChangeShapes Go.WideShapes Go.ChangeAt Go.RowKit Go.Proofs.Ytojmcjkeniepcaa.Kit Go.Proofs.Ytojmcjkeniepcaa.Gr Go.Proofs.Ytojmcjkeniepcaa.Hp Go.Proofs.Ytojmcjkeniepcaa.Ordr

theorem inv_len {L : List (List Int)} {o b hs : List Int} (h : Inv L o b hs) : hs.length ≤ L.length :=
  good_len ⟨fun x hx => by obtain ⟨k, hk, rfl, _⟩ := (h.m x).1 hx; omega, h.n⟩
theorem inv_found {L : List (List Int)} {o b hs : List Int} (h : Inv L o b hs) (h0 : 0 < hs.length) : ∃ k, foundF L o b = some k := by
  obtain ⟨k, hk, e, hf⟩ := (h.m hs[0]).1 (List.getElem_mem h0)
  cases e2 : foundF L o b with
  | some j => exact ⟨j, rfl⟩
  | none => exact absurd hf (found_none.1 e2 k hk)
theorem count_bound {L : List (List Int)} (hn : L.length ≤ 4096) (d : List Int) (j : Nat) : countW L d j ≤ 4096 := by
  have h1 := turnTo_length L j L.length
  have h2 : countW L d j ≤ (turnTo L j L.length).length := List.countP_le_length
  omega
/-- What may be released of a row. -/
theorem rel_in {L : List (List Int)} (hR : RightL L) {d : List Int} {i : Nat} (hi : i < L.length) (hd : (i : Int) ∉ d) : ∀ x ∈ L.getD i [], ∃ k : Nat, k < L.length ∧ x = k ∧ 1 ≤ (waitL L d).getD k 0 ∧ (waitL L d).getD k 0 ≤ 5000 := by
  intro x hx
  obtain ⟨k, hk, rfl, _⟩ := (good_nodup hR hi).2 x hx
  have h1 := count_rel hi hd k
  rw [if_pos hx] at h1
  have h2 := count_bound hR.1 d k
  refine ⟨k, hk, rfl, ?_, ?_⟩
  · rw [waitL_getD hk]; omega
  · rw [waitL_getD hk]; omega

set_option maxRecDepth 100000 in
set_option maxHeartbeats 3200000 in
theorem write_none {w : World} {B g a t c n : Nat} {E v : Value} {ws o b : List Int} (h : LineAt w B g a t c n E v ws o b []) :
    Calls Try.prog 36 #[.pointer (some ⟨g, 0, none⟩)] w fun e w' => e = .returned (.tuple #[.int .i64 0, .bool false]) ∧ w = w' := by
  have c4 := h.h.cell
  obtain ⟨A, cc, rfl⟩ := h.h.len
  clear h
  go_enter Try.func36, Try.ntmps36
  go_wp2_with (go_at_call 44; refine (len_any _ 0 _ _).mono ?_; rintro e w1 ⟨rfl, rfl⟩)
  go_ret2
  exact ⟨rfl, rfl⟩

set_option maxRecDepth 100000 in
set_option maxHeartbeats 6400000 in
theorem write_some {w : World} {B g a t c k m : Nat} {A : Option Addr} {rs : List Ri} {cE : Nat} {v : Value} {o b hs : List Int} (h : LineAt w B g a t c rs.length (.slice A rs.length cE) v (waitL (rowsL rs) (o ++ b)) o b hs) (hr : HoldsI w B A rs)
    (hR : RightL (rowsL rs)) (I : Inv (rowsL rs) o b hs) (hm : hs.length = m + 1) (hk : foundF (rowsL rs) o b = some k) :
    Calls Try.prog 36 #[.pointer (some ⟨g, 0, none⟩)] w fun e w' => e = .returned (.tuple #[.int .i64 k, .bool true]) ∧
      ∃ v' hs', LMove w w' B g a t c rs.length (.slice A rs.length cE) v v' (waitL (rowsL rs) (o ++ [(k : Int)] ++ b)) (o ++ [(k : Int)]) b hs' ∧ Inv (rowsL rs) (o ++ [(k : Int)]) b hs' := by
  have c4 := h.h.cell
  have hLn : (rowsL rs).length = rs.length := rowsL_length rs
  have hkn : k < rs.length := by have := (found_some.1 hk).2.1; omega
  have hn : rs.length ≤ 4096 := by have := hR.1; omega
  have hml : m + 1 ≤ 4096 := by have := inv_len I; omega
  have HPO := Lib.hid (hpop_any h.h I.h hm (by omega))
  have HIP : Hid (∀ x ys, PopR hs x ys → x = (k : Int) ∧ ((k : Int) ∈ b → Inv (rowsL rs) (o ++ [(k : Int)]) b ys ∧ waitL (rowsL rs) (o ++ [(k : Int)] ++ b) = waitL (rowsL rs) (o ++ b)) ∧
      ((k : Int) ∉ b → IsHeap ys ∧ ys.length ≤ 4096 ∧ waitL (rowsL rs) (o ++ [(k : Int)] ++ b) = relW (waitL (rowsL rs) (o ++ b)) rs[k].zs ∧ ∀ zs, IsHeap zs → zs.Perm (ys ++ relH (waitL (rowsL rs) (o ++ b)) rs[k].zs) → Inv (rowsL rs) (o ++ [(k : Int)]) b zs)) := Lib.hid (fun x ys hp => by
    obtain ⟨k', h1, rfl, h3, h4, h5⟩ := inv_pop hR I hp
    rw [hk] at h3
    injection h3 with h3
    subst h3
    rw [rowsL_getD hkn] at h5
    have hyl := hp.2.1.length_eq
    rw [List.length_cons] at hyl
    exact ⟨rfl, h4, fun hb => ⟨hp.1, by omega, h5 hb⟩⟩)
  have hco : (k : Int) ∉ o := (found_some.1 hk).1.1
  have HREL : Hid ((k : Int) ∉ b → ∀ (w1 : World) (v1 : Value) (o1 hs1 : List Int), LineAt w1 B g a t c rs.length (.slice A rs.length cE) v1 (waitL (rowsL rs) (o ++ b)) o1 b hs1 → Below B w w1 → IsHeap hs1 → hs1.length ≤ 4096 →
      Calls Try.prog 37 #[.pointer (some ⟨g, 0, none⟩), .int .i64 k] w1 fun e w' => e = .returned (.tuple #[]) ∧ Released w1 w' B g a t c rs.length (.slice A rs.length cE) v1 (waitL (rowsL rs) (o ++ b)) o1 b hs1 rs[k].zs) := Lib.hid (fun hb w1 v1 o1 hs1 h1 hB1 hh1 hl1 => by
    have hd : (k : Int) ∉ o ++ b := fun h2 => (List.mem_append.1 h2).elim hco hb
    have e1 := rel_in hR (d := o ++ b) (i := k) (by omega) hd
    have e2 := (good_nodup hR (i := k) (by omega)).1
    rw [rowsL_getD hkn] at e1 e2
    rw [hLn] at e1
    exact release_any h1 (hr.below hB1) hkn hn e2 e1 hh1 (by omega))
  have HT := Lib.hid (fun w1 v1 ys (ht : Turned19 w w1 B g (.slice A rs.length cE) (.slice (some ⟨a, 0, none⟩) rs.length rs.length) (.slice (some ⟨t, 0, none⟩) rs.length rs.length) (.slice (some ⟨c, 0, none⟩) rs.length rs.length) v v1 ys) => h.turned ht)
  have HBL := Lib.hid (fun w1 v1 ws1 o1 b1 hs1 (hm : LMove w w1 B g a t c rs.length (.slice A rs.length cE) v v1 ws1 o1 b1 hs1) => hm.below h)
  obtain ⟨Av, cv, ev⟩ := h.h.len
  rw [hm] at ev
  obtain ⟨n, hnn⟩ : ∃ n, rs.length = n := ⟨_, rfl⟩
  have hta := assert_int (k : Int)
  generalize waitL (rowsL rs) (o ++ b) = ws at *
  generalize waitL (rowsL rs) (o ++ [(k : Int)] ++ b) = ws2 at *
  generalize rowsL rs = L at *
  generalize rs[k].zs = zs at *
  rw [hnn] at hkn hn HPO HREL HT HBL ⊢
  have i1 : (k : Int) < (n : Int) := by omega
  clear h hr hR I hk hLn hco hm hnn
  subst ev
  by_cases hb : (k : Int) ∈ b
  · have HB := Lib.hid hb
    clear hb HREL
    go_enter Try.func36, Try.ntmps36
    go_wp2_with (first
      | (go_at_call 44; refine (len_any _ (m + 1) _ _).mono ?_; rintro e w1 ⟨rfl, rfl⟩)
      | (go_at_call 45; go_loud (refine HPO.out.mono ?_; rintro e w1 ⟨x, v1, ys, rfl, hp, T1⟩; obtain ⟨hx, p1, _⟩ := HIP.out x ys hp; have HP1 := Lib.hid (p1 HB.out); clear p1; subst hx; have M1 := HT.out _ _ _ T1; have HM1 := Lib.hid M1; have HM2 := Lib.hid (M1.trans (M1.L.wrote k)); have g1 := M1.L.c2; have g2 := M1.L.wt.cell hkn; have g3 := M1.L.wt.frozen k; have g4 := HM2.out.L.c3; have g5 := HM2.out.L.wc.cell hkn; unfold thereF at g2 g5; rw [decide_eq_true HB.out] at g5; clear M1 T1 hp)))
    go_ret2
    exact ⟨rfl, v1, ys, by rw [HP1.out.2]; exact HM2.out, HP1.out.1⟩
  · have HB := Lib.hid hb
    clear hb
    go_enter Try.func36, Try.ntmps36
    go_wp2_with (first
      | (go_at_call 44; refine (len_any _ (m + 1) _ _).mono ?_; rintro e w1 ⟨rfl, rfl⟩)
      | (go_at_call 45; go_loud (refine HPO.out.mono ?_; rintro e w1 ⟨x, v1, ys, rfl, hp, T1⟩; obtain ⟨hx, _, p1⟩ := HIP.out x ys hp; have HP1 := Lib.hid (p1 HB.out); clear p1; subst hx; have M1 := HT.out _ _ _ T1; have HM1 := Lib.hid M1; have HM2 := Lib.hid (M1.trans (M1.L.wrote k)); have g1 := M1.L.c2; have g2 := M1.L.wt.cell hkn; have g3 := M1.L.wt.frozen k; have g4 := HM2.out.L.c3; have g5 := HM2.out.L.wc.cell hkn; unfold thereF at g2 g5; rw [decide_eq_false HB.out] at g5; have HR2 := Lib.hid (HREL.out HB.out _ _ _ _ HM2.out.L (HBL.out _ _ _ _ _ _ HM2.out) HP1.out.1 HP1.out.2.1); clear M1 T1 hp))
      | (go_at_call 37; have _t := HR2; clear _t; refine HR2.out.mono ?_; rintro e w2 ⟨rfl, v2, hs2, M3, q2, q3⟩; have HM3 := Lib.hid (HM2.out.trans M3); have HQ := Lib.hid (HP1.out.2.2.2 _ q2 q3); clear M3 q2 q3))
    go_ret2
    exact ⟨rfl, v2, hs2, by rw [HP1.out.2.2.1]; exact HM3.out, HQ.out⟩
end Go.Proofs.Ytojmcjkeniepcaa.Ord

namespace Go.Proofs.Ytojmcjkeniepcaa.Ord
open Go.ChangeShapes Go.WideShapes Go.ChangeAt Go.RowKit Go.Proofs.Ytojmcjkeniepcaa.Kit Go.Proofs.Ytojmcjkeniepcaa.Gr Go.Proofs.Ytojmcjkeniepcaa.Hp Go.Proofs.Ytojmcjkeniepcaa.Ordr

theorem own_made (w : World) {n B k : Nat} (hn : n ≤ 1099511627776) (hk : k = w.heap.size) (hB : B ≤ k) : Own (w.alloc (.cells (madeCells #[.int .i64 0] n) 3)) B 3 .i64 (.slice (some ⟨k, 0, none⟩) n n) (List.replicate n 0) := by
  subst hk
  refine ⟨by simp, .inr ⟨w.heap.size, n, _, by simp, hB, heap_alloc_new w _, by simp, by unfold maxLen; omega, by rw [size_madeCells]; simp, ?_⟩⟩
  rw [toList_madeCells_one]
  simp
theorem there_made (w : World) {n k : Nat} (hk : k = w.heap.size) : (w.alloc (.cells (madeCells #[.bool false] n) 4)).rowIs k 4 n (thereF []) := by
  subst hk
  exact (World.rowIs_made w (.bool false) n 4).congr fun i _ => by unfold thereF; simp
theorem there_1 (w : World) (n : Nat) (o2 o3 : Obj) : (((w.alloc (.cells (madeCells #[.bool false] n) 4)).alloc o2).alloc o3).rowIs w.heap.size 4 n (thereF []) := ((there_made w rfl).alloc _).alloc _
theorem there_2 (w : World) (n : Nat) (o1 o3 : Obj) : (((w.alloc o1).alloc (.cells (madeCells #[.bool false] n) 4)).alloc o3).rowIs (w.heap.size + 1) 4 n (thereF []) := (there_made (w.alloc o1) (by simp)).alloc _
theorem there_3 (w : World) (n : Nat) (o1 o2 : Obj) : (((w.alloc o1).alloc o2).alloc (.cells (madeCells #[.bool false] n) 4)).rowIs (w.heap.size + 1 + 1) 4 n (thereF []) := there_made ((w.alloc o1).alloc o2) (by simp)
theorem own_1 (w : World) {n : Nat} (hn : n ≤ 4096) (o2 o3 : Obj) : Own (((w.alloc (.cells (madeCells #[.int .i64 0] n) 3)).alloc o2).alloc o3) w.heap.size 3 .i64 (.slice (some ⟨w.heap.size, 0, none⟩) n n) (List.replicate n 0) := ((own_made w (by omega) rfl (Nat.le_refl _)).alloc _).alloc _
theorem own_2 (w : World) {n : Nat} (hn : n ≤ 4096) (o1 o3 : Obj) : Own (((w.alloc o1).alloc (.cells (madeCells #[.int .i64 0] n) 3)).alloc o3) w.heap.size 3 .i64 (.slice (some ⟨w.heap.size + 1, 0, none⟩) n n) (List.replicate n 0) := (own_made (w.alloc o1) (by omega) (by simp) (by omega)).alloc _
theorem own_3 (w : World) {n : Nat} (hn : n ≤ 4096) (o1 o2 : Obj) : Own (((w.alloc o1).alloc o2).alloc (.cells (madeCells #[.int .i64 0] n) 3)) w.heap.size 3 .i64 (.slice (some ⟨w.heap.size + 1 + 1, 0, none⟩) n n) (List.replicate n 0) := own_made ((w.alloc o1).alloc o2) (by omega) (by simp) (by omega)
theorem below_3 (w : World) (o1 o2 o3 : Obj) : Below w.heap.size w (((w.alloc o1).alloc o2).alloc o3) := (((Below.refl w.heap.size w).alloc (Nat.le_refl _) _).alloc (by simp) _).alloc (by simp; omega) _
theorem line_new {w W : World} {g a t c n B : Nat} {E : Value} (hB : B ≤ W.heap.size) (ha : Own W B 3 .i64 (.slice (some ⟨a, 0, none⟩) n n) (List.replicate n 0)) (ht : W.rowIs t 4 n (thereF [])) (hc : W.rowIs c 4 n (thereF [])) (htc : t ≠ c)
    (bt : B ≤ t) (bc : B ≤ c) (hb : Below B w W) (hg : g = W.heap.size) :
    LineAt (W.alloc (.cells #[E, .slice (some ⟨a, 0, none⟩) n n, .slice (some ⟨t, 0, none⟩) n n, .slice (some ⟨c, 0, none⟩) n n, .slice none 0 0] 71)).drew B g a t c n E (.slice none 0 0) (List.replicate n 0) [] [] [] ∧
      Below B w (W.alloc (.cells #[E, .slice (some ⟨a, 0, none⟩) n n, .slice (some ⟨t, 0, none⟩) n n, .slice (some ⟨c, 0, none⟩) n n, .slice none 0 0] 71)).drew := by
  subst hg
  have h1 := hb.alloc hB (.cells #[E, .slice (some ⟨a, 0, none⟩) n n, .slice (some ⟨t, 0, none⟩) n n, .slice (some ⟨c, 0, none⟩) n n, .slice none 0 0] 71)
  exact ⟨⟨⟨Block.new W _ _, Own.nil _ _ _ _, by show B ≤ (W.alloc _).heap.size; simp; omega⟩, by simp, (ha.alloc _).drewN 1, by simp [Value.ownBlock], ht.alloc _, hc.alloc _, htc, hB, bt, bc⟩, h1.os, h1.tape, h1.output, h1.size, h1.block⟩

/-- How many each of the first k waits for. -/
def waitTo (L : List (List Int)) (n k : Nat) : List Int := (List.range n).map fun j => if j < k then ((turnTo L j L.length).length : Int) else 0
theorem waitTo_zero (L : List (List Int)) (n : Nat) : waitTo L n 0 = List.replicate n 0 := list_ext0 (by simp [waitTo]) fun i hi => by
  have hi' : i < n := by simpa [waitTo] using hi
  unfold waitTo
  rw [List.getD, List.getElem?_map, List.getElem?_range hi']
  simp [List.getD, hi']
theorem waitTo_next {L : List (List Int)} {n k : Nat} (hk : k < n) : (waitTo L n k).set k ((turnTo L k L.length).length : Int) = waitTo L n (k + 1) := list_ext0 (by simp [waitTo]) fun i hi => by
  have hi' : i < n := by simpa [waitTo] using hi
  rw [Hp.getD_set]
  unfold waitTo
  simp only [List.getD, List.getElem?_map, List.getElem?_range hi', List.length_map, List.length_range, Option.map_some, Option.getD_some]
  by_cases hik : i = k
  · subst hik; rw [if_pos ⟨rfl, hi'⟩, if_pos (by omega)]
  · rw [if_neg (fun h => hik h.1)]
    by_cases h2 : i < k
    · rw [if_pos h2, if_pos (by omega)]
    · rw [if_neg h2, if_neg (by omega)]
theorem waitTo_all (L : List (List Int)) : waitTo L L.length L.length = waitL L [] := list_ext0 (by simp [waitTo, waitL]) fun i hi => by
  have hi' : i < L.length := by simpa [waitTo] using hi
  rw [waitL_getD hi', count_nil]
  unfold waitTo
  rw [List.getD, List.getElem?_map, List.getElem?_range hi']
  simp [hi']
theorem noneL_length (L : List (List Int)) (m : Nat) : (noneL L m).length ≤ m := by
  unfold noneL
  rw [List.length_map]
  exact Nat.le_trans (List.length_filter_le _ _) (by simp)

set_option maxRecDepth 100000 in
set_option maxHeartbeats 6400000 in
theorem lineOf_any {w : World} {A AT : Option Addr} {rs qs : List Ri} {cE cT : Nat} {L : List (List Int)} (hr : HoldsI w w.heap.size AT qs) (hn : qs.length ≤ 4096) (hrl : rs.length = qs.length) (hL : rowsL qs = turnedL L) :
    Calls Try.prog 35 #[.slice A rs.length cE, .slice AT qs.length cT] w fun e w' => ∃ g a t c v hs, e = .returned (.pointer (some ⟨g, 0, none⟩)) ∧ LineAt w' w.heap.size g a t c rs.length (.slice A rs.length cE) v (waitL L []) [] [] hs ∧ IsHeap hs ∧ hs.Perm (noneL L L.length) ∧ Below w.heap.size w w' := by
  have hLL : L.length = qs.length := by have := congrArg List.length hL; rw [rowsL_length, turnedL_length] at this; exact this.symm
  have HQ : Hid (∀ k (hk : k < qs.length), qs[k].zs = turnTo L k L.length) := Lib.hid (fun k hk => by rw [← rowsL_getD hk, hL, turnedL_getD L (by omega)])
  obtain ⟨n, hnn⟩ : ∃ n, qs.length = n := ⟨_, rfl⟩
  have HN := Lib.hid hnn
  have hm1 : ∀ W, (Instr.makeSlice 25 (.int .i64 n) (.int .i64 n)).run Try.prog W = .ok (.slice (some ⟨W.heap.size, 0, none⟩) n n) (W.alloc (.cells (madeCells #[.int .i64 0] n) 3)) := fun W =>
    run_make_row' (P := Try.prog) 25 3 (.int .i64 0) 8 Try.underlying25 (by kernel_rfl) rfl .i64 .i64 n (by omega) (by omega) W
  have hm2 : ∀ W, (Instr.makeSlice 68 (.int .i64 n) (.int .i64 n)).run Try.prog W = .ok (.slice (some ⟨W.heap.size, 0, none⟩) n n) (W.alloc (.cells (madeCells #[.bool false] n) 4)) := fun W =>
    run_make_row' (P := Try.prog) 68 4 (.bool false) 1 Try.underlying68 (by kernel_rfl) rfl .i64 .i64 n (by omega) (by omega) W
  have HLL : Hid (L.length = n) := Lib.hid (hLL.trans hnn)
  rw [hrl, hnn]
  have hn4 : n ≤ 4096 := by omega
  clear hnn hn hrl hL hLL
  go_enter Try.func35, Try.ntmps35
  go_wp2_with fail
  go_cut [6] (fun v wx => ∃ g a t c, v = .pointer (some ⟨g, 0, none⟩) ∧ LineAt wx w.heap.size g a t c n (.slice A n cE) (.slice none 0 0) (List.replicate n 0) [] [] [] ∧ Below w.heap.size w wx)
  case first =>
    clear hr
    go_region_law fail
    all_goals
      go_wp2_with fail
      go_meet
      refine ⟨_, _, _, _, rfl, line_new (by simp; omega) ?ha ?ht ?hc (by omega) (by omega) (by omega) (below_3 _ _ _ _) (by simp)⟩
      case ha => with_reducible first | exact own_1 w hn4 _ _ | exact own_2 w hn4 _ _ | exact own_3 w hn4 _ _
      case ht => with_reducible first | exact there_1 w n _ _ | exact there_2 w n _ _ | exact there_3 w n _ _
      case hc => with_reducible first | exact there_1 w n _ _ | exact there_2 w n _ _ | exact there_3 w n _ _
  case rest =>
    obtain ⟨g, a, t, c, rfl, hL0, hb0⟩ := hcut
    rename World => w2
    have HB0 := Lib.hid hb0
    have HM0 := Lib.hid (LMove.start hL0)
    have HB := Lib.hid (fun W v' ws' o' b' hs' (m : LMove w2 W w.heap.size g a t c n (.slice A n cE) (.slice none 0 0) v' ws' o' b' hs') => hb0.trans (m.below hL0))
    have HR := Lib.hid (fun W (h : Below w.heap.size w W) => hr.below h)
    have HW0 := Lib.hid (waitTo_zero L n)
    have HH0 := Lib.hid isHeap_nil
    have HP0 : Hid (([] : List Int).Perm (noneL L 0)) := Lib.hid (by simp [noneL])
    clear hr hL0 hb0
    go_wp2_with fail
    go_loopw [22] (fun s wr => ∃ (k : Nat) (v : Value) (hs : List Int), k ≤ n ∧ s = .int .i64 k ∧ LMove w2 wr w.heap.size g a t c n (.slice A n cE) (.slice none 0 0) v (waitTo L n k) [] [] hs ∧ IsHeap hs ∧ hs.Perm (noneL L k)) (fun s _ => n - (intOf s).toNat)
    case atStart => exact ⟨0, _, [], Nat.zero_le _, rfl, by rw [HW0.out]; exact HM0.out, HH0.out, HP0.out⟩
    case round =>
      obtain ⟨k, v', hs', hk, rfl, M, hh, hp⟩ := hrel
      have HM := Lib.hid M
      have HH := Lib.hid hh
      have HP := Lib.hid hp
      by_cases hlt : k < n
      · have hkq : k < qs.length := by rw [HN.out]; exact hlt
        obtain ⟨b2, off2, rfl, -, hck, -, -, -, -⟩ := riAt (HR.out _ (HB.out _ _ _ _ _ _ M)) hkq
        have HZ := Lib.hid (HQ.out k hkq)
        generalize qs[k] = q at *
        obtain ⟨Aq, cq, zs⟩ := q
        simp only at HZ hck
        have hzl : zs.length ≤ 4096 := by rw [HZ.out]; have := turnTo_length L k L.length; have := HLL.out; omega
        have d1 : decide ((k : Int) < (n : Int)) = true := decide_eq_true (by omega)
        have d2 : decide (k < n) = true := decide_eq_true hlt
        have M1 := M.L.wait k (zs.length : Int)
        have e2 := waitTo_next (L := L) hlt
        rw [← HZ.out] at e2
        have g1 := M.L.c1
        have g2 := M.L.ca_ hlt
        have g3 := M.L.fa k
        rw [e2] at M1
        have HM1 := Lib.hid M1
        have HS := Lib.hid (noneL_next L k)
        rw [← HZ.out] at HS
        have hl5 : hs'.length ≤ 100000 := by have h1 := hp.length_eq; have h2 := noneL_length L k; omega
        have HPU := Lib.hid (hpush_any (k : Int) M1.L.h hh hl5)
        have HLT : Hid (∀ (w3 : World) (v2 : Value) (ys : List Int), Turned19 (wr.setCell ⟨a, k, none⟩ (.int .i64 (zs.length : Int))) w3 w.heap.size g (.slice A n cE) (.slice (some ⟨a, 0, none⟩) n n) (.slice (some ⟨t, 0, none⟩) n n) (.slice (some ⟨c, 0, none⟩) n n) v' v2 ys → LMove w2 w3 w.heap.size g a t c n (.slice A n cE) (.slice none 0 0) v2 (waitTo L n (k + 1)) [] [] ys) := Lib.hid (fun w3 v2 ys ht => (HM.out.trans HM1.out).trans (HM1.out.L.turned ht))
        clear M M1 hh hp e2 hl5
        by_cases hz : zs = []
        · rw [if_pos hz] at HS
          subst hz
          have e0 : (([] : List Int).length : Int) = 0 := rfl
          rw [e0] at HPU HLT
          clear e0
          go_wp2_with (go_at_call 43; refine HPU.out.mono ?_; rintro e w3 ⟨rfl, v2, ys, y1, y2⟩; have HY1 := Lib.hid y1; have HY2 := Lib.hid (HLT.out _ _ _ y2); clear y1 y2)
          go_roundw
          case rel => exact ⟨k + 1, v2, ys, hlt, by go_num, HY2.out, HY1.out.1, HY1.out.2.trans (by
            rw [HS.out]
            exact (List.perm_append_comm (l₁ := [(k : Int)])).trans (HP.out.append_right _))⟩
          case measure => simp [intOf] <;> omega
        · rw [if_neg hz, List.append_nil] at HS
          have hz0 : zs.length ≠ 0 := fun h => hz (List.eq_nil_of_length_eq_zero h)
          have d3 : ((zs.length : Int) == 0) = false := by rw [beq_eq_false_iff_ne]; omega
          clear HPU HLT hz
          go_wp2_with fail
          go_roundw
          case rel => exact ⟨k + 1, v', hs', hlt, by go_num, HM.out.trans HM1.out, HH.out, by rw [HS.out]; exact HP.out⟩
          case measure => simp [intOf] <;> omega
      · obtain rfl : k = n := by omega
        have d1 : decide ((k : Int) < (k : Int)) = false := decide_eq_false (by omega)
        have d2 : decide (k < k) = false := decide_eq_false (by omega)
        have HWA := Lib.hid (waitTo_all L)
        rw [HLL.out] at HWA
        clear M hh hp
        go_wp2_with fail
        go_ret
        refine ⟨g, a, t, c, v', hs', rfl, ?_, HH.out, by rw [HLL.out]; exact HP.out, HB.out _ _ _ _ _ _ HM.out⟩
        rw [← HWA.out]
        exact HM.out.L
end Go.Proofs.Ytojmcjkeniepcaa.Ord

namespace Go.Proofs.Ytojmcjkeniepcaa.Ord
open Go.ChangeShapes Go.WideShapes Go.ChangeAt Go.RowKit Go.Proofs.Ytojmcjkeniepcaa.Kit Go.Proofs.Ytojmcjkeniepcaa.Gr Go.Proofs.Ytojmcjkeniepcaa.Hp Go.Proofs.Ytojmcjkeniepcaa.Ordr

section
variable {w w' : World} {B g a t c n : Nat} {E v v' vo vb vo' vb' : Value} {ws o b hs ws' o' b' hs' po pb po' pb' : List Int}
theorem LineAt.S_lt (h : LineAt w B g a t c n E v ws o b hs) : ∀ k, LineS g a t c v k → k < w.heap.size := by
  rintro k (rfl | rfl | rfl | rfl | e)
  · exact h.h.s.lt
  · exact h.alt
  · exact h.wt.lt
  · exact h.wc.lt
  · exact (h.h.o.lt k e).2
/-- The two rows that Of makes, apart from the line's and from each other. -/
structure Rows2 (w : World) (B g a t c : Nat) (v vo vb : Value) (po pb : List Int) : Prop where
  oo : Own w B 3 .i64 vo po
  ob : Own w B 3 .i64 vb pb
  ao : ∀ k, vo.ownBlock = some k → ¬ LineS g a t c v k
  ab : ∀ k, vb.ownBlock = some k → ¬ LineS g a t c v k
  x : ∀ k, vo.ownBlock = some k → vb.ownBlock ≠ some k
theorem Rows2.line (R : Rows2 w B g a t c v vo vb po pb) (M : LMove w w' B g a t c n E v v' ws o b hs) : Rows2 w' B g a t c v' vo vb po pb := by
  have key : ∀ (u : Value), (∀ k, u.ownBlock = some k → k < w.heap.size) → (∀ k, u.ownBlock = some k → ¬ LineS g a t c v k) → ∀ k, u.ownBlock = some k → ¬ LineS g a t c v' k := by
    intro u h1 h2 k hk hs
    rcases hs with e | e | e | e | e
    · exact h2 k hk (.inl e)
    · exact h2 k hk (.inr (.inl e))
    · exact h2 k hk (.inr (.inr (.inl e)))
    · exact h2 k hk (.inr (.inr (.inr (.inl e))))
    · rcases M.N with hn | hn
      · exact h2 k hk (.inr (.inr (.inr (.inr (hn ▸ e)))))
      · have := hn k e
        have := h1 k hk
        omega
  exact ⟨R.oo.out M.T R.ao, R.ob.out M.T R.ab, key vo (fun k hk => (R.oo.lt k hk).2) R.ao, key vb (fun k hk => (R.ob.lt k hk).2) R.ab, R.x⟩
theorem Rows2.order (R : Rows2 w B g a t c v vo vb po pb) (L : LineAt w B g a t c n E v ws o b hs) (ho : Own w' B 3 .i64 vo' po') (ht : TurnsIn (fun k => vo.ownBlock = some k) w w') (hn : Newer w vo vo') :
    Rows2 w' B g a t c v vo' vb po' pb ∧ LineAt w' B g a t c n E v ws o b hs := by
  refine ⟨⟨ho, R.ob.out ht (fun k hk e => R.x k e hk), fun k hk hs => ?_, R.ab, fun k hk hb => ?_⟩, L.out ht (fun k hk e => R.ao k e hk)⟩
  · rcases hn with e | e
    · exact R.ao k (e ▸ hk) hs
    · have := e k hk
      have := L.S_lt k hs
      omega
  · rcases hn with e | e
    · exact R.x k (e ▸ hk) hb
    · have := e k hk
      have := (R.ob.lt k hb).2
      omega
theorem Rows2.broken (R : Rows2 w B g a t c v vo vb po pb) (L : LineAt w B g a t c n E v ws o b hs) (ho : Own w' B 3 .i64 vb' pb') (ht : TurnsIn (fun k => vb.ownBlock = some k) w w') (hn : Newer w vb vb') :
    Rows2 w' B g a t c v vo vb' po pb' ∧ LineAt w' B g a t c n E v ws o b hs := by
  refine ⟨⟨R.oo.out ht (fun k hk e => R.x k hk e), ho, R.ao, fun k hk hs => ?_, fun k hk hb => ?_⟩, L.out ht (fun k hk e => R.ab k e hk)⟩
  · rcases hn with e | e
    · exact R.ab k (e ▸ hk) hs
    · have := e k hk
      have := L.S_lt k hs
      omega
  · rcases hn with e | e
    · exact R.x k hk (e ▸ hb)
    · have := e k hb
      have := (R.oo.lt k hk).2
      omega
end
/-- append(v, z), the new block's number told by an equation. -/
theorem wpList_append_one_as {P : Program} (w : World) {ops : Array Oper} {rest : List Oper} {o : Oper} {a : Act} {Q : Exit → Act → World → Prop} (hgd : o.guard = none) (s x : Operand) (t : TypeId)
    (ho : o.op = .call { callee := .builtin .append, args := #[s, x], argTypes := #[t, t] }) {e : TypeId} {k : IntKind} {bytes : Nat} (he : IntElem P t e k bytes)
    {B : Nat} {v : Value} {xs : List Int} (hown : Own w B e k v xs) (hs : a.eval s = v)
    {z : Int} {c m : Nat} (hm : m = w.heap.size) (hx : a.eval x = .slice (some ⟨m, 0, none⟩) 1 c) (hsz : xs.length + 1 ≤ 1099511627776) (hbase : B ≤ w.heap.size)
    (h : ∀ A' c' w', Own w' B e k (.slice A' (xs.length + 1) c') (xs ++ [z]) → TurnsIn (fun b => v.ownBlock = some b) w w' → Newer w v (.slice A' (xs.length + 1) c') → wpList P ops Q rest (a.put o.dst (.slice A' (xs.length + 1) c')) w') :
    wpList P ops Q (o :: rest) a (w.alloc (.cells #[.int k z] e)) := by
  subst hm
  exact wpList_append_one_out _ hgd s x t ho he hown hs hx hsz hbase h
def lenV : Value → Nat
  | .slice _ n _ => n
  | _ => 0
/-- Between two steps of Of. -/
structure OfSt (w wr : World) (B g a t c n : Nat) (L : List (List Int)) (E : Value) (R : List Int × List Int) (f : Nat) (vo vb : Value) (low : Nat) (o b : List Int) (v : Value) (hs : List Int) : Prop where
  st : St L R f o b
  ll : LineAt wr B g a t c n E v (waitL L (o ++ b)) o b hs
  I : Inv L o b hs
  rw2 : Rows2 wr B g a t c v vo vb o b
  low : ∀ j, j < low → (j : Int) ∈ o ∨ (j : Int) ∈ b
  be : Below w.heap.size w wr
theorem OfSt.found {w wr w3 w4 : World} {B g a t c n low f k : Nat} {L : List (List Int)} {E vo vb v v3 vo4 : Value} {R : List Int × List Int} {o b hs hs3 : List Int} (S : OfSt w wr B g a t c n L E R (f + 1) vo vb low o b v hs) (hn : L.length = n) (hl : o.length < n) (hB : w.heap.size ≤ B) (hk : foundF L o b = some k)
    (M3 : LMove wr w3 B g a t c n E v v3 (waitL L (o ++ [(k : Int)] ++ b)) (o ++ [(k : Int)]) b hs3) (I3 : Inv L (o ++ [(k : Int)]) b hs3) (o4 : Own w4 B 3 .i64 vo4 (o ++ [(k : Int)])) (t4 : TurnsIn (fun j => vo.ownBlock = some j) w3 w4) (n4 : Newer w3 vo vo4) :
    OfSt w w4 B g a t c n L E R f vo4 vb low (o ++ [(k : Int)]) b v3 hs3 := by
  have R3 := S.rw2.line M3
  obtain ⟨h1, h2⟩ := R3.order M3.L o4 t4 n4
  refine ⟨st_found S.st (by omega) hk, h2, I3, h1, fun j hj => ?_, ?_⟩
  · rcases S.low j hj with h | h
    · exact .inl (List.mem_append_left _ h)
    · exact .inr h
  · refine (S.be.trans ((M3.below S.ll).mono hB)).trans (t4.toBelow (Nat.le_trans hB M3.L.h.B) fun j hj e => ?_)
    have := (R3.oo.lt j e).1
    omega
/-- broken[k] = true; broken = append(broken, k). -/
theorem OfSt.mark {w wr w4 : World} {B g a t c n low f k : Nat} {L : List (List Int)} {E vo vb v vb4 : Value} {R : List Int × List Int} {o b hs : List Int} (S : OfSt w wr B g a t c n L E R f vo vb low o b v hs) (hB : w.heap.size ≤ B)
    (o4 : Own w4 B 3 .i64 vb4 (b ++ [(k : Int)])) (t4 : TurnsIn (fun j => vb.ownBlock = some j) (wr.setCell ⟨c, k, none⟩ (.bool true)) w4) (n4 : Newer (wr.setCell ⟨c, k, none⟩ (.bool true)) vb vb4) :
    LineAt w4 B g a t c n E v (waitL L (o ++ b)) o (b ++ [(k : Int)]) hs ∧ Rows2 w4 B g a t c v vo vb4 o (b ++ [(k : Int)]) ∧ Below w.heap.size w w4 := by
  have M3 := S.ll.broke k
  have R3 := S.rw2.line M3
  obtain ⟨h1, h2⟩ := R3.broken M3.L o4 t4 n4
  refine ⟨h2, h1, (S.be.trans ((M3.below S.ll).mono hB)).trans (t4.toBelow (Nat.le_trans hB M3.L.h.B) fun j hj e => ?_)⟩
  have := (R3.ob.lt j e).1
  omega
theorem OfSt.left {w wr w4 w5 : World} {B g a t c n low f k : Nat} {L : List (List Int)} {E vo vb v vb4 v5 : Value} {R : List Int × List Int} {o b hs5 : List Int} (S : OfSt w wr B g a t c n L E R (f + 1) vo vb low o b v []) (hR : RightL L) (hn : L.length = n) (hl : o.length < n) (hB : w.heap.size ≤ B) (hk : leftF L o b = some k)
    (R4 : Rows2 w4 B g a t c v vo vb4 o (b ++ [(k : Int)])) (L4 : LineAt w4 B g a t c n E v (waitL L (o ++ b)) o (b ++ [(k : Int)]) []) (b4 : Below w.heap.size w w4)
    (M5 : LMove w4 w5 B g a t c n E v v5 (relW (waitL L (o ++ b)) (L.getD k [])) o (b ++ [(k : Int)]) hs5) (h5 : IsHeap hs5) (p5 : hs5.Perm ([] ++ relH (waitL L (o ++ b)) (L.getD k []))) :
    OfSt w w5 B g a t c n L E R f vo vb4 k o (b ++ [(k : Int)]) v5 hs5 := by
  obtain ⟨e1, e2⟩ := inv_break hR S.I hk
  refine ⟨st_left S.st (by omega) (inv_none S.I) hk, by rw [e1]; exact M5.L, e2 _ h5 p5, R4.line M5, fun j hj => ?_, b4.trans ((M5.below L4).mono hB)⟩
  rcases (left_some.1 hk).2.2 j hj with h | h
  · exact .inl h
  · exact .inr (List.mem_append_left _ h)
/-- What Of answers. -/
def OfR (L : List (List Int)) (w : World) (e : Ending) (w' : World) : Prop := if RightL L then
  ∃ (Ao : Option Addr) (co : Nat) (Ab : Option Addr) (cb : Nat), e = .returned (.tuple #[.slice Ao (ofL L).1.length co, .slice Ab (ofL L).2.length cb, .int .i64 0]) ∧ Holds w' w'.heap.size .i64 Ao (ofL L).1 ∧ Holds w' w'.heap.size .i64 Ab (ofL L).2 ∧ Below w.heap.size w w'
  else e = .returned (.tuple #[.slice none 0 0, .slice none 0 0, .int .i64 3]) ∧ Below w.heap.size w w'

set_option maxRecDepth 100000 in
set_option maxHeartbeats 12800000 in
theorem of_any (A : Option Addr) (rs : List Ri) (c0 : Nat) (w : World) (hr : HoldsI w w.heap.size A rs) : Calls Try.prog 23 #[.slice A rs.length c0] w (OfR (rowsL rs) w) := by
  have GT := gturned_any A rs c0 w hr
  unfold GTurned at GT
  unfold OfR
  have hLn : (rowsL rs).length = rs.length := rowsL_length rs
  by_cases hR : RightL (rowsL rs)
  · simp only [if_pos hR] at GT ⊢
    have hn : rs.length ≤ 4096 := by have := hR.1; omega
    have HST0 := Lib.hid (st_start (rowsL rs))
    generalize ofL (rowsL rs) = R at HST0 ⊢
    have GTH := Lib.hid GT
    have HR := Lib.hid hR
    have HLN := Lib.hid hLn
    have HH := Lib.hid hr
    have HLO := Lib.hid (fun (w1 : World) (AT : Option Addr) (qs : List Ri) (cT : Nat) (k3 : rowsL qs = turnedL (rowsL rs)) (k4 : HoldsI w1 w1.heap.size AT qs) =>
      have e : rs.length = qs.length := by have := congrArg List.length k3; rw [rowsL_length, turnedL_length, hLn] at this; exact this.symm
      lineOf_any (A := A) (rs := rs) (cE := c0) (cT := cT) (L := rowsL rs) k4 (by omega) e k3)
    obtain ⟨n, hnn⟩ : ∃ n, rs.length = n := ⟨_, rfl⟩
    have HN := Lib.hid hnn
    have HWS := Lib.hid (fun (W : World) (B g a t c k m : Nat) (v : Value) (o b hs : List Int) (h : LineAt W B g a t c rs.length (.slice A rs.length c0) v (waitL (rowsL rs) (o ++ b)) o b hs) (h2 : HoldsI W B A rs) (I : Inv (rowsL rs) o b hs) (hm : hs.length = m + 1) (hk : foundF (rowsL rs) o b = some k) => write_some h h2 HR.out I hm hk)
    have HRE : Hid (∀ (W : World) (B g a t c k : Nat) (v : Value) (o b b2 hs : List Int), LineAt W B g a t c rs.length (.slice A rs.length c0) v (waitL (rowsL rs) (o ++ b)) o b2 hs → HoldsI W B A rs → k < rs.length → (k : Int) ∉ o ++ b → IsHeap hs → hs.length ≤ 4096 →
        Calls Try.prog 37 #[.pointer (some ⟨g, 0, none⟩), .int .i64 k] W fun e w' => e = .returned (.tuple #[]) ∧ Released W w' B g a t c rs.length (.slice A rs.length c0) v (waitL (rowsL rs) (o ++ b)) o b2 hs ((rowsL rs).getD k [])) := Lib.hid (fun W B g a t c k v o b b2 hs h h2 hk hd hh hl => by
      have e1 := rel_in HR.out (d := o ++ b) (i := k) (by rw [HLN.out]; exact hk) hd
      have e2 := (good_nodup HR.out (i := k) (by rw [HLN.out]; exact hk)).1
      rw [rowsL_getD hk] at e1 e2 ⊢
      rw [HLN.out] at e1
      exact release_any h h2 hk hn e2 e1 hh (by omega))
    have HRO : Hid (∀ (W : World) (B : Nat), w.heap.size ≤ B → Below w.heap.size w W → HoldsI W B A rs) := Lib.hid (fun W B hB h => (hr.below h).more hB)
    obtain ⟨L, hL⟩ : ∃ L, rowsL rs = L := ⟨_, rfl⟩
    rw [hL] at HST0 GTH HR HLN HLO HWS HRE
    clear GT hR hLn hr hL
    rw [hnn] at GTH HLO HLN hn HWS HRE ⊢
    clear hnn
    go_enter Try.func23, Try.ntmps23
    go_wp2_with (first
      | (go_at_call 18; refine GTH.out.mono ?_; rintro e w1 ⟨A1, c1, qs, rfl, k1, k2, k3, k4, hb1⟩; have HB1 := Lib.hid hb1; have HLO2 := Lib.hid (HLO.out w1 A1 qs c1 k3 k4); clear k3 k4 k1 k2 hb1)
      | (go_at_call 35; have _t := HLO2; clear _t; refine HLO2.out.mono ?_; rintro e w2 ⟨g, a, t, c, v0, hs0, rfl, l1, l2, l3, l4⟩; have HL1 := Lib.hid l1; have HI1 := Lib.hid (inv_start l2 l3); have HB2 := Lib.hid (HB1.out.trans (l4.mono HB1.out.size)); clear l1 l2 l3 l4))
    have HBB := Lib.hid HB1.out.size
    generalize w1.heap.size = B at *
    have HS0 : Hid (OfSt w w2 B g a t c n L (.slice A n c0) R (2 * L.length) (.slice none 0 0) (.slice none 0 0) 0 [] [] v0 hs0) := Lib.hid ⟨HST0.out, HL1.out, HI1.out, ⟨Own.nil _ _ _ _, Own.nil _ _ _ _, fun k hk => (by cases hk), fun k hk => (by cases hk), fun k hk => (by cases hk)⟩, fun j hj => absurd hj (by omega), HB2.out⟩
    go_loopw [8, 9, 10] (fun vo vb sl wr => ∃ (f low : Nat) (o b hs : List Int) (v : Value), sl = .int .i64 low ∧ OfSt w wr B g a t c n L (.slice A n c0) R f vo vb low o b v hs) (fun vo vb _ _ => 2 * n - (lenV vo + lenV vb))
    case atStart => exact ⟨_, 0, [], [], hs0, v0, rfl, HS0.out⟩
    case round =>
      clear HS0 HL1 HI1 HB2 HLO HLO2 HST0 GTH HB1
      obtain ⟨f, low, o, b, hs, v, rfl, S⟩ := hrel
      have HS := Lib.hid S
      obtain ⟨Ao, co, rfl, -, -, hho⟩ := S.rw2.oo.opened
      obtain ⟨Ab, cb, rfl, -, -, hhb⟩ := S.rw2.ob.opened
      have HHO := Lib.hid hho
      have HHB := Lib.hid hhb
      have HBW := Lib.hid S.ll.h.B
      have HFU := Lib.hid S.st.fu
      have hbn : b.length ≤ n := by have := good_len S.st.hb; rw [HLN.out] at this; exact this
      clear hho hhb
      by_cases hl : o.length < n
      · have d1 : decide ((o.length : Int) < (n : Int)) = true := decide_eq_true (by omega)
        have d1n : decide (o.length < n) = true := decide_eq_true hl
        obtain ⟨f', rfl⟩ := st_more S.st (by rw [HLN.out]; exact hl)
        by_cases hh : hs.length = 0
        · obtain rfl : hs = [] := List.eq_nil_of_length_eq_zero hh
          obtain ⟨k, hk⟩ := left_is (by rw [HLN.out]; exact hl) (inv_none S.I)
          have HW := Lib.hid (write_none S.ll)
          obtain ⟨⟨kO, kB⟩, hkn, hkl⟩ := left_some.1 hk
          rw [HLN.out] at hkn
          have hlk : low ≤ k := by
            rcases Nat.lt_or_ge k low with h | h
            · exact absurd (S.low k h) (fun h2 => h2.elim kO kB)
            · exact h
          have HK := Lib.hid hk
          have HL := Lib.hid hl
          have HKL := Lib.hid hkl
          have HKN := Lib.hid (show (k : Int) ∉ o ++ b from fun h => (List.mem_append.1 h).elim kO kB)
          have g1 := S.ll.c2
          have g2 := S.ll.c3
          have HC2 := Lib.hid (fun (j : Nat) (h : j < n) => S.ll.wt.cell h)
          have HC3 := Lib.hid (fun (j : Nat) (h : j < n) => S.ll.wc.cell h)
          have g4 : wr.cell? ⟨t, k, none⟩ = some (.bool false) := by rw [S.ll.wt.cell hkn]; unfold thereF; rw [decide_eq_false kO]
          have g5 : wr.cell? ⟨c, k, none⟩ = some (.bool false) := by rw [S.ll.wc.cell hkn]; unfold thereF; rw [decide_eq_false kB]
          have g6 := S.ll.wc.frozen k
          have HM3 := Lib.hid (S.ll.broke k)
          have HOB3 := Lib.hid (S.rw2.line HM3.out).ob
          have hB3 := HM3.out.L.h.B
          have HSZ : Hid (wr.heap.size = (wr.setCell ⟨c, k, none⟩ (.bool true)).heap.size) := Lib.hid (by simp [World.setCell])
          have hb6 : b.length + 1 ≤ 1099511627776 := by omega
          clear S hh hk hl hkl kO kB
          go_wp2_with (go_at_call 36; refine HW.out.mono ?_; rintro e w3 ⟨rfl, rfl⟩)
          go_loop [10] (fun s => ∃ j : Nat, j ≤ k ∧ s = .int .i64 j) (fun s => k - (intOf s).toNat)
          case atStart => exact ⟨low, hlk, rfl⟩
          case round =>
            obtain ⟨j, hjk, rfl⟩ := hrel
            by_cases hj : j < k
            · have hjn : j < n := by omega
              have q1 := HC2.out j hjn
              have q2 := HC3.out j hjn
              have i1 : (j : Int) < (n : Int) := by omega
              have HJ := Lib.hid (HKL.out j hj)
              clear g4 g5 g6
              unfold thereF at q1 q2
              by_cases h1 : (j : Int) ∈ o
              · rw [decide_eq_true h1] at q1
                clear h1 q2
                go_wp2_with fail
                go_round
                case rel => exact ⟨j + 1, hj, by go_num⟩
                case measure => simp [intOf] <;> omega
              · have h2 : (j : Int) ∈ b := HJ.out.resolve_left h1
                rw [decide_eq_false h1] at q1
                rw [decide_eq_true h2] at q2
                clear h1 h2
                go_wp2_with fail
                go_round
                case rel => exact ⟨j + 1, hj, by go_num⟩
                case measure => simp [intOf] <;> omega
            · obtain rfl : j = k := by omega
              have i1 : (j : Int) < (n : Int) := by omega
              go_wp2_with (first
                | (at_builtin; refine wpList_append_one_as (z := (j : Int)) _ rfl _ _ _ rfl elemI HOB3.out rfl HSZ.out rfl hb6 hB3 ?_; intro A4 c4 w4 o4 t4 n4; have H4 := Lib.hid (HS.out.mark HBB.out o4 t4 n4); have HR4 := Lib.hid (HRE.out _ _ _ _ _ _ _ _ _ _ _ _ H4.out.1 (HRO.out _ _ HBB.out H4.out.2.2) hkn HKN.out isHeap_nil (by simp)); clear o4 t4 n4)
                | (go_at_call 37; have _t := HR4; clear _t; refine HR4.out.mono ?_; rintro e w5 ⟨rfl, v5, hs5, M5, h5, p5⟩; have H5 := Lib.hid (HS.out.left HR.out HLN.out HL.out HBB.out HK.out H4.out.2.1 H4.out.1 H4.out.2.2 M5 h5 p5); clear M5 h5 p5))
              go_roundw
              case rel => exact ⟨f', j, o, b ++ [(j : Int)], hs5, v5, rfl, H5.out⟩
              case measure => simp [lenV]; have := HFU.out; have := HL.out; omega
        · obtain ⟨m, hm⟩ : ∃ m, hs.length = m + 1 := ⟨hs.length - 1, by omega⟩
          obtain ⟨k, hk⟩ := inv_found S.I (by omega)
          have HW := Lib.hid (HWS.out _ _ _ _ _ _ _ _ _ _ _ _ S.ll (HRO.out _ _ HBB.out S.be) S.I hm hk)
          have HK := Lib.hid hk
          have HL := Lib.hid hl
          have hl6 : o.length + 1 ≤ 1099511627776 := by omega
          clear S hh hm hk hl
          go_wp2_with (first
            | (go_at_call 36; refine HW.out.mono ?_; rintro e w3 ⟨rfl, v3, hs3, M3, I3⟩; have HM3 := Lib.hid M3; have HI3 := Lib.hid I3; have HR3 := Lib.hid (HS.out.rw2.line M3); have hB3 := M3.L.h.B; clear M3 I3)
            | (at_builtin; have _t := HR3; clear _t; refine wpList_append_one_out (z := (k : Int)) _ rfl _ _ _ rfl elemI HR3.out.oo rfl rfl hl6 hB3 ?_; intro A4 c4 w4 o4 t4 n4; have H4 := Lib.hid (HS.out.found HLN.out HL.out HBB.out HK.out HM3.out HI3.out o4 t4 n4); clear o4 t4 n4))
          go_roundw
          case rel => exact ⟨f', low, o ++ [(k : Int)], b, hs3, v3, rfl, H4.out⟩
          case measure => simp [lenV]; have := HFU.out; have := HL.out; omega
      · have d1 : decide ((o.length : Int) < (n : Int)) = false := decide_eq_false (by omega)
        have d1n : decide (o.length < n) = false := decide_eq_false hl
        have HE := Lib.hid (st_end S.st (by rw [HLN.out]; exact hl))
        clear S hl
        go_wp2_with fail
        go_ret3
        have HE2 := HE.out
        subst HE2
        exact ⟨Ao, co, Ab, cb, rfl, HHO.out, HHB.out, HS.out.be⟩
  · simp only [if_neg hR] at GT ⊢
    have GTH := Lib.hid GT
    clear hR GT hr hLn
    go_enter Try.func23, Try.ntmps23
    go_wp2_with (go_at_call 18; refine GTH.out.mono ?_; rintro e w1 ⟨A1, c1, qs, rfl, k1, k2, k3, k4, hb1⟩)
    go_ret3
    exact ⟨rfl, hb1⟩
end Go.Proofs.Ytojmcjkeniepcaa.Ord

namespace Go.Proofs.Ytojmcjkeniepcaa.Ord
open Go.ChangeShapes Go.WideShapes Go.ChangeAt Go.RowKit Go.Proofs.Ytojmcjkeniepcaa.Kit Go.Proofs.Ytojmcjkeniepcaa.Gr Go.Proofs.Ytojmcjkeniepcaa.Hp Go.Proofs.Ytojmcjkeniepcaa.Ordr

def exR (k : Nat) : List Ri := [⟨some ⟨k, 0, none⟩, 1, [1]⟩, ⟨some ⟨k + 1, 0, none⟩, 1, [0]⟩]
theorem ex_rows (k : Nat) : rowsL (exR k) = [[1], [0]] := rfl
theorem ex_right : RightL [[1], [0]] := by decide +kernel
theorem ex_of : ofL [[1], [0]] = ([1, 0], [0]) := by decide +kernel
def exW (w : World) : World := ((w.alloc (.cells #[.int .i64 1] 3)).alloc (.cells #[.int .i64 0] 3)).alloc (.cells #[.slice (some ⟨w.heap.size, 0, none⟩) 1 1, .slice (some ⟨w.heap.size + 1, 0, none⟩) 1 1] 25)
theorem own_lit {w : World} {B k : Nat} {x : Int} (hk : k = w.heap.size) (hB : B ≤ k) : Own (w.alloc (.cells #[.int .i64 x] 3)) B 3 .i64 (.slice (some ⟨k, 0, none⟩) 1 1) [x] := by
  subst hk
  exact World.ownsRow_lit (size := 1) w #[.int .i64 x] 1 hB (by unfold maxLen; omega) rfl
theorem ex_holds (w : World) : HoldsI (exW w) (exW w).heap.size (some ⟨w.heap.size + 1 + 1, 0, none⟩) (exR w.heap.size) := by
  unfold exW
  have h1 := ((own_lit (w := w) (B := w.heap.size) (x := 1) rfl (Nat.le_refl _)).alloc (.cells #[.int .i64 0] 3)).alloc (.cells #[.slice (some ⟨w.heap.size, 0, none⟩) 1 1, .slice (some ⟨w.heap.size + 1, 0, none⟩) 1 1] 25)
  have h2 := (own_lit (w := w.alloc (.cells #[.int .i64 1] 3)) (B := w.heap.size) (k := w.heap.size + 1) (x := 0) (by simp) (by omega)).alloc (.cells #[.slice (some ⟨w.heap.size, 0, none⟩) 1 1, .slice (some ⟨w.heap.size + 1, 0, none⟩) 1 1] 25)
  have hs : ((w.alloc (.cells #[.int .i64 1] 3)).alloc (.cells #[.int .i64 0] 3)).heap.size = w.heap.size + 1 + 1 := by simp
  have h3 : OwnV (((w.alloc (.cells #[.int .i64 1] 3)).alloc (.cells #[.int .i64 0] 3)).alloc (.cells #[.slice (some ⟨w.heap.size, 0, none⟩) 1 1, .slice (some ⟨w.heap.size + 1, 0, none⟩) 1 1] 25)) w.heap.size 25 (.slice (some ⟨w.heap.size + 1 + 1, 0, none⟩) 2 2) ((exR w.heap.size).map Ri.val) := by
    rw [← hs]
    exact World.ownsRow_lit (size := 1) _ #[.slice (some ⟨w.heap.size, 0, none⟩) 1 1, .slice (some ⟨w.heap.size + 1, 0, none⟩) 1 1] 2 (by rw [hs]; omega) (by unfold maxLen; omega) rfl
  refine OwnV.ints (B' := w.heap.size) h3 ?_
  intro r hr
  unfold exR at hr
  rcases List.mem_cons.1 hr with rfl | hr
  · exact ⟨h1, fun z hz => by have := List.mem_singleton.1 hz; omega⟩
  · obtain rfl := List.mem_singleton.1 hr
    exact ⟨h2, fun z hz => by have := List.mem_singleton.1 hz; omega⟩
theorem ex_below (w : World) : Below w.heap.size w (exW w) := (((Below.refl w.heap.size w).alloc (Nat.le_refl _) _).alloc (by simp) _).alloc (by simp; omega) _

theorem holds_1 {w : World} {k : Nat} {x : Int} (hk : k = w.heap.size) : Holds (w.alloc (.cells #[.int .i64 x] 3)) (w.alloc (.cells #[.int .i64 x] 3)).heap.size .i64 (some ⟨k, 0, none⟩) [x] := by
  obtain ⟨A, c, e, _, _, h⟩ := (own_lit (w := w) (B := 0) (x := x) hk (Nat.zero_le _)).opened
  injection e with e
  subst e
  exact h
theorem holds_2 {w : World} {k : Nat} {x y : Int} (hk : k = w.heap.size) : Holds (w.alloc (.cells #[.int .i64 x, .int .i64 y] 3)) (w.alloc (.cells #[.int .i64 x, .int .i64 y] 3)).heap.size .i64 (some ⟨k, 0, none⟩) [x, y] := by
  subst hk
  have ho : Own (w.alloc (.cells #[.int .i64 x, .int .i64 y] 3)) 0 3 .i64 (.slice (some ⟨w.heap.size, 0, none⟩) 2 2) [x, y] := World.ownsRow_lit (size := 1) w #[.int .i64 x, .int .i64 y] 2 (Nat.zero_le _) (by unfold maxLen; omega) rfl
  obtain ⟨A, c, e, _, _, h⟩ := ho.opened
  injection e with e
  subst e
  exact h
/-- Both answers are compared. -/
theorem ex_same {w1 : World} {Ao Ab : Option Addr} {co cb : Nat} (h1 : Holds w1 w1.heap.size .i64 Ao [1, 0]) (h2 : Holds w1 w1.heap.size .i64 Ab [0]) :
    Calls Try.prog 13 #[.slice Ao 2 co, .slice (some ⟨w1.heap.size, 0, none⟩) 2 2] (w1.alloc (.cells #[.int .i64 1, .int .i64 0] 3)) (fun e w' => e = .returned (.bool true) ∧ ∃ n, w' = (w1.alloc (.cells #[.int .i64 1, .int .i64 0] 3)).drewN n) ∧
    ∀ n, Calls Try.prog 13 #[.slice Ab 1 cb, .slice (some ⟨w1.heap.size + 1, 0, none⟩) 1 1] (((w1.alloc (.cells #[.int .i64 1, .int .i64 0] 3)).drewN n).alloc (.cells #[.int .i64 0] 3)) (fun e w' => e = .returned (.bool true) ∧ ∃ m, w' = (((w1.alloc (.cells #[.int .i64 1, .int .i64 0] 3)).drewN n).alloc (.cells #[.int .i64 0] 3)).drewN m) := by
  constructor
  · exact same_any Ao (some ⟨w1.heap.size, 0, none⟩) [1, 0] [1, 0] co 2 (w1.alloc (.cells #[.int .i64 1, .int .i64 0] 3)) (by simp) (by simp) (h1.on (below_last _ _)) (holds_2 rfl)
  · intro n
    have h3 := h2.on (below_last w1 (.cells #[.int .i64 1, .int .i64 0] 3))
    have h4 : Holds ((w1.alloc (.cells #[.int .i64 1, .int .i64 0] 3)).drewN n) ((w1.alloc (.cells #[.int .i64 1, .int .i64 0] 3)).drewN n).heap.size .i64 Ab [0] := h3
    have hs : ((w1.alloc (.cells #[.int .i64 1, .int .i64 0] 3)).drewN n).heap.size = w1.heap.size + 1 := by
      show (w1.alloc (.cells #[.int .i64 1, .int .i64 0] 3)).heap.size = _
      simp
    exact same_any Ab (some ⟨w1.heap.size + 1, 0, none⟩) [0] [0] cb 1 _ (by simp) (by simp) (h4.on (below_last _ _)) (holds_1 hs.symm)

set_option maxRecDepth 100000 in
set_option maxHeartbeats 6400000 in
theorem awake_any (w : World) : Calls Try.prog 22 #[] w fun e w' => e = .returned (.bool true) ∧ Below w.heap.size w w' := by
  have GO := of_any (some ⟨w.heap.size + 1 + 1, 0, none⟩) (exR w.heap.size) 2 (exW w) (ex_holds w)
  unfold OfR at GO
  rw [ex_rows, ex_of] at GO
  simp only [if_pos ex_right] at GO
  have GOH := Lib.hid GO
  have HB := Lib.hid (ex_below w)
  unfold exW at GOH HB
  simp only [exR, List.length_cons, List.length_nil] at GOH
  clear GO
  go_enter Try.func22, Try.ntmps22
  go_wp2_with (first
    | (go_at_call 23; refine GOH.out.mono ?_; rintro e w1 ⟨Ao, co, Ab, cb, rfl, h1, h2, hb1⟩; obtain ⟨q1, q2⟩ := ex_same (co := co) (cb := cb) h1 h2; have Q1 := Lib.hid q1; have Q2 := Lib.hid q2; have HB1 := Lib.hid (HB.out.trans (hb1.mono HB.out.size)); clear h1 h2 hb1 q1 q2)
    | (go_at_call 13; have _t := Q1; clear _t; refine Q1.out.mono ?_; rintro e w2 ⟨rfl, n2, rfl⟩; clear Q1; have Q3 := Lib.hid (Q2.out n2))
    | (go_at_call 13; have _t := Q3; clear _t; refine Q3.out.mono ?_; rintro e w3 ⟨rfl, n3, rfl⟩))
  go_ret
  refine ⟨rfl, ?_⟩
  exact below_draws ((below_draws (HB1.out.alloc HB1.out.size _) n2).alloc (by have := HB1.out.size; show _ ≤ (w1.alloc _).heap.size; simp; omega) _) n3
end Go.Proofs.Ytojmcjkeniepcaa.Ord
