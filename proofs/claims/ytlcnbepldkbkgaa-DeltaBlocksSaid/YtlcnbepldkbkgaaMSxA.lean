/-
  Layer 14, suffix.byRank: a row put in order by ranks: a contract. Conditions: as each theorem names.
-/
import Derived.Test.YtlcnbepldkbkgaaRows
import Derived.Test.YtlcnbepldkbkgaaMSxP
import Derived.Test.YtlcnbepldkbkgaaMGDcks4
import Derived.Deep.RegionLaw
import Derived.Deep.QuietTactic
import Derived.BigQuiet
import Derived.LoopTactic
import Derived.Lib.Hide
namespace Go.Proofs.Ytlcnbepldkbkgaa.Sx
open Go.ChangeShapes Go.WideShapes Go.ChangeAt Go.RowKit Go.Proofs.Ytlcnbepldkbkgaa.Kit

theorem elem32 : IntElem Try.prog 60 21 .i32 4 := ⟨by kernel_rfl, by kernel_rfl, by decide⟩
/-- A row of the call's own, told by a function. -/
def OwnF (w : World) (B g n c : Nat) (f : Nat → Int) : Prop := Own w B 21 .i32 (.slice (some ⟨g, 0, none⟩) n c) (rowF n f)
section
variable {w w' : World} {B g n c : Nat} {f h : Nat → Int}
theorem OwnF.cell (o : OwnF w B g n c f) {i : Nat} (hi : i < n) : w.cell? ⟨g, i, none⟩ = some (.int .i32 (f i)) := by
  have h1 := Own.cellAt (w := w) (B := B) (e := 21) (k := .i32) (g := g) (cap := c) (n := n) (xs := rowF n f) o (by rw [rowF_length]) (i := i) (by rw [rowF_length]; exact hi)
  rw [h1]
  have := rowF_getD f hi
  unfold List.getD at this
  rw [this]
theorem OwnF.frozen (o : OwnF w B g n c f) (i : Nat) : w.frozen? ⟨g, i, none⟩ = false := Own.frozenAt (xs := rowF n f) o (by rw [rowF_length]) i
theorem OwnF.put (o : OwnF w B g n c f) {i : Nat} (hi : i < n) (x : Int) (hh : ∀ j, j < n → h j = if j = i then x else f j) : OwnF (w.setCell ⟨g, i, none⟩ (.int .i32 x)) B g n c h := by
  have h1 := (Own.stored (xs := rowF n f) o (by rw [rowF_length]) i x).1
  rw [rowF_set f h x hi hh] at h1
  exact h1
theorem OwnF.out {S : Nat → Prop} (o : OwnF w B g n c f) (ho : TurnsIn S w w') (hs : ¬ S g) : OwnF w' B g n c f := Own.out o ho fun k hk => by
  injection hk with hk
  subst hk
  exact hs
theorem OwnF.congr (o : OwnF w B g n c f) (e : ∀ j, j < n → f j = h j) : OwnF w B g n c h := by unfold OwnF; rw [← rowF_congr e]; exact o
theorem OwnF.lt (o : OwnF w B g n c f) : B ≤ g ∧ g < w.heap.size := Own.lt o g rfl
theorem turns_put (w : World) (g i : Nat) (v : Value) : TurnsIn (fun b => b = g) w (w.setCell ⟨g, i, none⟩ v) := (TurnsIn.refl (fun b => b = g) w).setCell (p := ⟨g, i, none⟩) (.inl rfl) v
theorem below_turns {S : Nat → Prop} (hb : Below w.heap.size w w') : TurnsIn S w w' := .ofNew hb
end
/-- How many of the first k have each rank, one place on. -/
def tally (f : Nat → Nat) (k v : Nat) : Int := if v = 0 then 0 else (same f (v - 1) k : Int)
def sums (f : Nat → Nat) (n r v : Nat) : Int := if v ≤ r then (start f n v : Int) else (same f (v - 1) n : Int)
def places (f : Nat → Nat) (n k v : Nat) : Int := (start f n v : Int) + (same f v k : Int)
theorem same_le (f : Nat → Nat) (v k : Nat) : same f v k ≤ k := cnt_le _ _
theorem tally_next (f : Nat → Nat) (k v : Nat) : tally f (k + 1) v = if v = f k + 1 then tally f k (f k + 1) + 1 else tally f k v := by
  unfold tally
  by_cases h0 : v = 0
  · rw [if_pos h0, if_neg (by omega), if_pos h0]
  · rw [if_neg h0, same_succ]
    by_cases h1 : v = f k + 1
    · subst h1
      rw [if_pos rfl, if_pos (by omega), if_neg (by omega)]
      simp
    · rw [if_neg h1, if_neg h0, if_neg (by omega)]
      simp
theorem sums_next (f : Nat → Nat) (n r v : Nat) : sums f n (r + 1) v = if v = r + 1 then sums f n r (r + 1) + sums f n r r else sums f n r v := by
  unfold sums
  by_cases h1 : v = r + 1
  · subst h1
    rw [if_pos (Nat.le_refl _), if_pos rfl, if_neg (by omega), if_pos (Nat.le_refl _), Nat.add_sub_cancel, start_succ]
    omega
  · rw [if_neg h1]
    by_cases h2 : v ≤ r
    · rw [if_pos (by omega), if_pos h2]
    · rw [if_neg (by omega), if_neg h2]
theorem sums_start (f : Nat → Nat) (n v : Nat) : tally f n v = sums f n 0 v := by
  unfold tally sums
  by_cases h : v = 0
  · subst h; rw [if_pos rfl, if_pos (Nat.le_refl _), start_zero]; rfl
  · rw [if_neg h, if_neg (by omega)]
theorem places_start (f : Nat → Nat) {n m v : Nat} (h : v ≤ m) : sums f n m v = places f n 0 v := by
  unfold sums places
  rw [if_pos h]
  simp [same, cnt]
theorem places_next (f : Nat → Nat) (n k v : Nat) : places f n (k + 1) v = if v = f k then places f n k (f k) + 1 else places f n k v := by
  unfold places
  rw [same_succ]
  by_cases h1 : v = f k
  · subst h1
    rw [if_pos rfl, if_pos rfl]
    omega
  · rw [if_neg h1, if_neg (fun h => h1 h.symm)]
    omega
theorem places_pos (f : Nat → Nat) (n k : Nat) : places f n k (f k) = (pos f n k : Int) := by unfold places pos; omega

/-- A row that holds what belongs at each place, told by numbers. -/
theorem placed_of {n : Nat} {row f : Nat → Nat} {y : Nat → Int} (hy : ∀ j, j < n → y (pos f n j) = (row j : Int)) (_ : PermT n row) : ∃ T : Nat → Nat, Placed n row f T ∧ ∀ p, p < n → y p = (T p : Int) := by
  refine ⟨fun p => (y p).toNat, ⟨fun j hj => by show (y (pos f n j)).toNat = row j; rw [hy j hj]; rfl⟩, fun p hp => ?_⟩
  obtain ⟨j, hj, rfl⟩ := (perm_pos (f := f)).onto hp
  show y (pos f n j) = ((y (pos f n j)).toNat : Int)
  rw [hy j hj]
  rfl
set_option maxRecDepth 100000 in
set_option maxHeartbeats 12800000 in
theorem byRank_any {w : World} {B n m gr gi gk cr ci ck : Nat} {row f : Nat → Nat} {rk x : Nat → Int} (hr : OwnF w B gr n cr (fun j => (row j : Int))) (hi : OwnF w B gi n ci x) (hk : OwnF w B gk n ck rk)
    (n1 : gr ≠ gi) (n2 : gk ≠ gi) (hp : PermT n row) (hf : ∀ j, j < n → rk (row j) = (f j : Int) ∧ f j < m) (hn : n ≤ 1000000) (hm : m ≤ 1000000) :
    Calls Try.prog 38 #[.slice (some ⟨gr, 0, none⟩) n cr, .slice (some ⟨gi, 0, none⟩) n ci, .slice (some ⟨gk, 0, none⟩) n ck, .int .i64 m] w fun e w' =>
      e = .returned (.tuple #[]) ∧ ∃ T : Nat → Nat, Placed n row f T ∧ OwnF w' B gi n ci (fun p => (T p : Int)) ∧ TurnsIn (fun b => b = gi) w w' := by
  have HR := Lib.hid (fun W (h : TurnsIn (fun b => b = gi ∨ w.heap.size ≤ b) w W) => hr.out h (by rintro (e | e); exact n1 e; have := hr.lt; omega))
  have HK := Lib.hid (fun W (h : TurnsIn (fun b => b = gi ∨ w.heap.size ≤ b) w W) => hk.out h (by rintro (e | e); exact n2 e; have := hk.lt; omega))
  have HP := Lib.hid hp
  have HF := Lib.hid hf
  have HLT := Lib.hid hp.lt
  have HRT := Lib.hid hp
  have HI := Lib.hid (fun W (h : Below w.heap.size w W) => hi.out (S := fun b => w.heap.size ≤ b) (.ofBelow h (fun b _ h => h)) (by have := hi.lt; omega))
  have hlt1 := hi.lt.2
  go_enter Try.func38, Try.ntmps38
  go_wp2_with (at_make; refine wpList_make_ints w rfl _ _ _ rfl elem32 (m + 1) (m + 1) rfl rfl (by simp) (by simp) (Nat.le_refl _) (by omega) ?_; intro w1 O1 B1 hz1)
  have F1 : OwnF w1 w.heap.size w.heap.size (m + 1) (m + 1) (tally f 0) := by
    unfold OwnF
    rw [← rowF_congr (f := fun _ => 0) (g := tally f 0) (fun j _ => by unfold tally; split <;> rfl), ← rowF_zero]
    exact O1
  have HF1 := Lib.hid F1
  have HB1 := Lib.hid B1
  clear O1 F1 B1 hr hi hk hp hf
  go_loopw [19] (fun s wr => ∃ k : Nat, k ≤ n ∧ s = .int .i64 k ∧ OwnF wr w.heap.size w.heap.size (m + 1) (m + 1) (tally f k) ∧ Below w.heap.size w wr) (fun s _ => n - (intOf s).toNat)
  case atStart => exact ⟨0, Nat.zero_le _, rfl, HF1.out, HB1.out⟩
  case round =>
    clear HF1 HB1 hz1
    obtain ⟨k, hkn, rfl, F, Bw⟩ := hrel
    have HFW := Lib.hid F
    have HBW := Lib.hid Bw
    have hT : TurnsIn (fun b => b = gi ∨ w.heap.size ≤ b) w wr := .ofBelow Bw fun b _ h => .inr h
    have hrw := HR.out wr hT
    have hkw := HK.out wr hT
    have HTW := Lib.hid hT
    by_cases hlt : k < n
    · have d1 : decide ((k : Int) < (n : Int)) = true := decide_eq_true (by omega)
      have d2 : decide (k < n) = true := decide_eq_true hlt
      obtain ⟨e1, e2⟩ := HF.out k hlt
      have hrn := HLT.out k hlt
      have c1 := hrw.cell hlt
      have c2 := hkw.cell hrn
      rw [e1] at c2
      have c3 := F.cell (i := f k + 1) (by omega)
      have f3 := F.frozen (f k + 1)
      have hb0 : 0 ≤ tally f k (f k + 1) ∧ tally f k (f k + 1) ≤ 1000000 := by
        unfold tally
        have := same_le f (f k + 1 - 1) k
        split <;> omega
      have F2 := F.put (i := f k + 1) (by omega) (tally f k (f k + 1) + 1) (h := tally f (k + 1)) (fun j _ => tally_next f k j)
      have HF2 := Lib.hid F2
      have HB2 := Lib.hid (Bw.setCell (p := ⟨w.heap.size, f k + 1, none⟩) (Nat.le_refl _) (.int .i32 (tally f k (f k + 1) + 1)))
      generalize tally f k (f k + 1) = t at *
      generalize row k = q at *
      generalize f k = v at *
      have i1 : (q : Int) < (n : Int) := by omega
      have i2 : (v : Int) + 1 < ((m + 1 : Nat) : Int) := by omega
      have i3 : (v : Int) + 1 < (m : Int) + 1 := by omega
      clear F F2 hrw hkw e1 hT Bw
      go_wp2_with fail
      go_roundw
      case rel => exact ⟨k + 1, hlt, by go_num, HF2.out, HB2.out⟩
      case measure => simp [intOf] <;> omega
    · have d1 : decide ((n : Int) < (n : Int)) = false := decide_eq_false (by omega)
      have d2 : decide (n < n) = false := decide_eq_false (by omega)
      obtain rfl : n = k := by omega
      have HS := Lib.hid (F.congr (fun j _ => sums_start f n j))
      clear F hrw hkw hT Bw
      go_wp2_with fail
      go_loopw [35] (fun s wr => ∃ r : Nat, r ≤ m ∧ s = .int .i64 r ∧ OwnF wr w.heap.size w.heap.size (m + 1) (m + 1) (sums f n r) ∧ Below w.heap.size w wr) (fun s _ => m - (intOf s).toNat)
      case atStart => exact ⟨0, Nat.zero_le _, rfl, HS.out, HBW.out⟩
      case round =>
        clear HS HFW HBW HTW
        obtain ⟨r, hrm, rfl, F, Bw⟩ := hrel
        have HFW := Lib.hid F
        have HBW := Lib.hid Bw
        by_cases hltr : r < m
        · have d3 : decide ((r : Int) < (m : Int)) = true := decide_eq_true (by omega)
          have d4 : decide (r < m) = true := decide_eq_true hltr
          have c1 := F.cell (i := r + 1) (by omega)
          have c2 := F.cell (i := r) (by omega)
          have f1 := F.frozen (r + 1)
          have hs1 : sums f n r (r + 1) + sums f n r r = (start f n (r + 1) : Int) := by
            unfold sums
            rw [if_neg (by omega), if_pos (Nat.le_refl _), Nat.add_sub_cancel, start_succ]
            omega
          have hb1 : 0 ≤ sums f n r (r + 1) := by unfold sums; split <;> omega
          have hb2 : 0 ≤ sums f n r r := by unfold sums; split <;> omega
          have hb3 : sums f n r (r + 1) + sums f n r r ≤ 1000000 := by have := start_le (f := f) (n := n) (r + 1); omega
          have F2 := F.put (i := r + 1) (by omega) (sums f n r (r + 1) + sums f n r r) (h := sums f n (r + 1)) (fun j _ => sums_next f n r j)
          have HF2 := Lib.hid F2
          have HB2 := Lib.hid (Bw.setCell (p := ⟨w.heap.size, r + 1, none⟩) (Nat.le_refl _) (.int .i32 (sums f n r (r + 1) + sums f n r r)))
          generalize sums f n r (r + 1) = t at *
          generalize sums f n r r = u at *
          have hw1 : IntKind.i64.wrap ((r : Int) + 1) = ((r + 1 : Nat) : Int) := by rw [IntWalk.i64_in _ (by omega)]; omega
          have hw2 : IntKind.i32.wrap (t + u) = t + u := IntWalk.i32_in _ (by omega)
          have i1 : ((r + 1 : Nat) : Int) < (m : Int) + 1 := by omega
          have i2 : (r : Int) < (m : Int) + 1 := by omega
          have i3 : (0 : Int) ≤ (r : Int) + 1 := by omega
          have i4 : (r : Int) + 1 < (m : Int) + 1 := by omega
          clear F F2 Bw hs1
          go_wp2_with fail
          go_region_law fail
          all_goals
            go_wp2_with fail
            go_roundw
            case rel => exact ⟨r + 1, hltr, by go_num, HF2.out, below_draws HB2.out 1⟩
            case measure => simp [intOf] <;> omega
        · have d3 : decide ((m : Int) < (m : Int)) = false := decide_eq_false (by omega)
          have d4 : decide (m < m) = false := decide_eq_false (by omega)
          obtain rfl : m = r := by omega
          have T2 : TurnsIn (fun b => b = gi ∨ w.heap.size ≤ b) w wr := .ofBelow Bw fun b _ h => .inr h
          have HI2 := Lib.hid (HI.out wr Bw)
          have HT2 := Lib.hid T2
          have HTF := Lib.hid (TurnsIn.ofBelow (S := fun b => b = gi) Bw (fun b h1 h2 => by omega))
          have HPL : Hid (∀ q, q < m → sums f n m q = places f n 0 q) := Lib.hid (fun q hq => places_start f (by omega))
          have HS0 := Lib.hid F
          clear F Bw T2 HFW HBW
          go_wp2_with fail
          go_loopw [52] (fun s wr => ∃ (k : Nat) (y nx : Nat → Int), k ≤ n ∧ s = .int .i64 k ∧ (∀ v, v < m → nx v = places f n k v) ∧ OwnF wr w.heap.size w.heap.size (m + 1) (m + 1) nx ∧ OwnF wr B gi n ci y ∧ (∀ j, j < k → y (pos f n j) = (row j : Int)) ∧ TurnsIn (fun b => b = gi ∨ w.heap.size ≤ b) w wr) (fun s _ => n - (intOf s).toNat)
          case atStart => exact ⟨0, _, _, Nat.zero_le _, rfl, HPL.out, HS0.out, HI2.out, fun j hj => absurd hj (by omega), HT2.out⟩
          case round =>
            clear HS0 HI2 HPL HT2 HTF
            obtain ⟨k, y, nx, hkn, rfl, hnx, F, Y, hy, T⟩ := hrel
            have HNX := Lib.hid hnx
            have HYY := Lib.hid hy
            have HTT := Lib.hid T
            have HY := Lib.hid Y
            by_cases hlt : k < n
            · have d5 : decide ((k : Int) < (n : Int)) = true := decide_eq_true (by omega)
              have d6 : decide (k < n) = true := decide_eq_true hlt
              obtain ⟨e1, e2⟩ := HF.out k hlt
              have hrn := HLT.out k hlt
              have hpn := pos_lt (f := f) hlt
              have c1 := (HR.out wr T).cell hlt
              have c2 := (HK.out wr T).cell hrn
              rw [e1] at c2
              have c3 := F.cell (i := f k) (by omega)
              rw [hnx _ e2, places_pos] at c3
              have f3 := Y.frozen (pos f n k)
              have c4 := Y.cell hpn
              have Y2 := Y.put hpn (row k : Int) (h := fun q => if q = pos f n k then (row k : Int) else y q) (fun j _ => rfl)
              have T1 : TurnsIn (fun b => b = gi ∨ w.heap.size ≤ b) w (wr.setCell ⟨gi, pos f n k, none⟩ (.int .i32 (row k))) := T.setCell (.inl (.inl rfl)) _
              have F1 := F.out (turns_put wr gi (pos f n k) (.int .i32 (row k))) (show ¬ w.heap.size = gi by omega)
              have g2 := (HK.out _ T1).cell hrn
              rw [e1] at g2
              have g3 := F1.cell (i := f k) (by omega)
              rw [hnx _ e2, places_pos] at g3
              have h3 := F1.frozen (f k)
              have F2 := F1.put (i := f k) (by omega) ((pos f n k : Int) + 1) (h := fun q => if q = f k then (pos f n k : Int) + 1 else nx q) (fun j _ => rfl)
              have HF2 := Lib.hid F2
              have HY2 := Lib.hid (Y2.out (turns_put _ w.heap.size (f k) (.int .i32 ((pos f n k : Int) + 1))) (show ¬ gi = w.heap.size by omega))
              have HT3 := Lib.hid (T1.setCell (p := ⟨w.heap.size, f k, none⟩) (.inr (Nat.le_refl _)) (.int .i32 ((pos f n k : Int) + 1)))
              have HN2 : Hid (∀ v, v < m → (if v = f k then (pos f n k : Int) + 1 else nx v) = places f n (k + 1) v) := Lib.hid (fun v hv => by
                rw [places_next, places_pos]
                split
                · rfl
                · exact hnx v hv)
              have HY3 : Hid (∀ j, j < k + 1 → (if pos f n j = pos f n k then (row k : Int) else y (pos f n j)) = (row j : Int)) := Lib.hid (fun j hj => by
                by_cases e : j = k
                · subst e; rw [if_pos rfl]
                · rw [if_neg (fun h => e (pos_inj (by omega) hlt h))]
                  exact hy j (by omega))
              have hp6 : pos f n k ≤ 1000000 := by omega
              generalize pos f n k = z at *
              generalize row k = q at *
              generalize f k = v at *
              have i1 : (q : Int) < (n : Int) := by omega
              have i2 : (v : Int) < (m : Int) + 1 := by omega
              have i3 : (z : Int) < (n : Int) := by omega
              clear F F1 F2 Y Y2 T T1 hnx hy e1
              go_wp2_with fail
              go_roundw
              case rel => exact ⟨k + 1, _, _, hlt, by go_num, HN2.out, HF2.out, HY2.out, HY3.out, HT3.out⟩
              case measure => simp [intOf] <;> omega
            · have d5 : decide ((n : Int) < (n : Int)) = false := decide_eq_false (by omega)
              have d6 : decide (n < n) = false := decide_eq_false (by omega)
              obtain rfl : n = k := by omega
              have HPL := Lib.hid (placed_of (n := n) (row := row) (f := f) hy HRT.out)
              have HLST : Hid (TurnsIn (fun b => b = gi) w wr) := Lib.hid (T.mono (fun b hb h => by rcases h with h | h; exact h; omega))
              clear F Y T hnx hy
              go_wp2_with fail
              go_end0
              obtain ⟨T', t1, t2⟩ := HPL.out
              exact ⟨rfl, T', t1, HY.out.congr t2, HLST.out⟩
end Go.Proofs.Ytlcnbepldkbkgaa.Sx
