/-
  Layer 14, suffix.rank: new ranks by a row's order: contracts, one for each closure. Conditions: as each theorem names.
-/
import Derived.Test.YtlcnbepldkbkgaaMSxA
namespace Go.Proofs.Ytlcnbepldkbkgaa.Sx
open Go.ChangeShapes Go.WideShapes Go.ChangeAt Go.RowKit Go.Proofs.Ytlcnbepldkbkgaa.Kit

theorem cnt_yes {p : Nat → Bool} {k : Nat} (h : p k = true) : cnt p (k + 1) = cnt p k + 1 := by show _ + _ = _; rw [if_pos h]
theorem cnt_not {p : Nat → Bool} {k : Nat} (h : p k = false) : cnt p (k + 1) = cnt p k := by show _ + _ = _; rw [h]; rfl
/-- New ranks, put down. -/
def RankOk (n : Nat) (T : Nat → Nat) (r s y : Nat → Int) : Prop := ∀ p, p < n → y (T p) = (cnt (markT T r s) (p + 1) : Int) - 1

set_option maxRecDepth 100000 in
set_option maxHeartbeats 12800000 in
theorem rank_first {w : World} {B n gT gr gi cT cr ci : Nat} {T : Nat → Nat} {r s x : Nat → Int} (hT : OwnF w B gT n cT (fun j => (T j : Int))) (hr : OwnF w B gr n cr r) (hi : OwnF w B gi n ci x)
    (n1 : gT ≠ gi) (n2 : gr ≠ gi) (hp : PermT n T) (hn : n ≤ 1000000)
    (hs : ∀ (i : Nat), i < n → ∀ W : World, TurnsIn (fun b => b = gi) w W → Calls Try.prog 40 #[.int .i32 i] W fun e w' => e = .returned (.int .i32 (s i)) ∧ W = w') :
    Calls Try.prog 39 #[.slice (some ⟨gT, 0, none⟩) n cT, .slice (some ⟨gr, 0, none⟩) n cr, .slice (some ⟨gi, 0, none⟩) n ci, .func (.func 40) #[] #[]] w fun e w' =>
      e = .returned (.int .i64 (cnt (markT T r s) n)) ∧ ∃ y : Nat → Int, RankOk n T r s y ∧ OwnF w' B gi n ci y ∧ TurnsIn (fun b => b = gi) w w' := by
  have HT := Lib.hid (fun W (h : TurnsIn (fun b => b = gi) w W) => hT.out h n1)
  have HR := Lib.hid (fun W (h : TurnsIn (fun b => b = gi) w W) => hr.out h n2)
  have HP := Lib.hid hp
  have HS := Lib.hid hs
  have HI := Lib.hid hi
  have HT0 : Hid (TurnsIn (fun b => b = gi) w w) := Lib.hid (.refl _ _)
  have HC0 : Hid (cnt (markT T r s) 0 = 0) := Lib.hid rfl
  have HMK : Hid (∀ j, markT T r s (j + 1) = decide (r (T (j + 1)) ≠ r (T j) ∨ s (T (j + 1)) ≠ s (T j))) := Lib.hid (fun j => by unfold markT; rw [decide_eq_decide]; simp)
  have HM0 : Hid (markT T r s 0 = true) := Lib.hid mark_zero
  have HCL := Lib.hid (cnt_le (markT T r s))
  obtain ⟨mk, hmk⟩ : ∃ mk, markT T r s = mk := ⟨_, rfl⟩
  unfold RankOk
  rw [hmk] at HC0 HMK HM0 HCL ⊢
  clear hT hr hi hp hs hmk
  go_enter Try.func39, Try.ntmps39
  go_wp2_with fail
  go_loopw [9, 14] (fun sc sk wr => ∃ (k : Nat) (y : Nat → Int), k ≤ n ∧ sc = .int .i64 (cnt mk k) ∧ sk = .int .i64 k ∧ OwnF wr B gi n ci y ∧ (∀ j, j < k → y (T j) = (cnt mk (j + 1) : Int) - 1) ∧ TurnsIn (fun b => b = gi) w wr) (fun _ sk _ => n - (intOf sk).toNat)
  case atStart => exact ⟨0, x, Nat.zero_le _, by rw [HC0.out]; rfl, rfl, HI.out, fun j hj => absurd hj (by omega), HT0.out⟩
  case round =>
    clear HI HT0 HC0
    obtain ⟨k, y, hkn, rfl, rfl, Y, hy, U⟩ := hrel
    have HY := Lib.hid Y
    have HYY := Lib.hid hy
    have HU := Lib.hid U
    have hcl := HCL.out k
    by_cases hlt : k < n
    · have d1 : decide ((k : Int) < (n : Int)) = true := decide_eq_true (by omega)
      have d2 : decide (k < n) = true := decide_eq_true hlt
      have hTk := HP.out.lt k hlt
      have c1 := (HT.out wr U).cell hlt
      have c2 := (HR.out wr U).cell hTk
      have f1 := Y.frozen (T k)
      have c3 := Y.cell hTk
      have HYN : Hid (∀ (z : Int), z = (cnt mk (k + 1) : Int) - 1 → ∀ m : Nat, OwnF ((wr.drewN m).setCell ⟨gi, T k, none⟩ (.int .i32 z)) B gi n ci (fun q => if q = T k then z else y q) ∧ (∀ j, j < k + 1 → (if T j = T k then z else y (T j)) = (cnt mk (j + 1) : Int) - 1) ∧ TurnsIn (fun b => b = gi) w ((wr.drewN m).setCell ⟨gi, T k, none⟩ (.int .i32 z))) := Lib.hid (fun z hz m => by
        refine ⟨OwnF.put (show OwnF (wr.drewN m) B gi n ci y from Y) hTk z (fun j _ => rfl), fun j hj => ?_, (U.drewN m).setCell (.inl rfl) _⟩
        by_cases e : j = k
        · subst e; rw [if_pos rfl]; exact hz
        · rw [if_neg (fun h => e (HP.out.inj j k (by omega) hlt h))]
          exact hy j (by omega))
      cases k with
      | zero =>
        have HC1 := Lib.hid (cnt_yes HM0.out)
        have e0 : cnt mk 0 = 0 := rfl
        rw [e0] at HC1 ⊢
        have HYZ := Lib.hid (HYN.out 0 (by rw [HC1.out]; rfl))
        generalize T 0 = q at *
        have i1 : (q : Int) < (n : Int) := by omega
        clear Y hy U hcl
        go_wp2_with fail
        go_quiet (fail)
        go_wp2_with fail
        go_roundw
        case rel => exact ⟨1, _, hlt, by rw [HC1.out]; rfl, rfl, (HYZ.out nq).1, (HYZ.out nq).2.1, (HYZ.out nq).2.2⟩
        case measure => simp [intOf] <;> omega
      | succ j =>
        have hTj := HP.out.lt j (by omega)
        have c4 := (HT.out wr U).cell (i := j) (by omega)
        have c5 := (HR.out wr U).cell hTj
        have HM := Lib.hid (HMK.out j)
        have e0 : (((j + 1 : Nat) : Int) == 0) = false := by rw [beq_eq_false_iff_ne]; omega
        have e0' : ((j : Int) + 1 == 0) = false := by rw [beq_eq_false_iff_ne]; omega
        have HS1 := Lib.hid (fun m => HS.out (T (j + 1)) hTk (wr.drewN m) (U.drewN m))
        have HS2 := Lib.hid (fun m => HS.out (T j) hTj (wr.drewN m) (U.drewN m))
        have HCY := Lib.hid (fun h => cnt_yes (p := mk) (k := j + 1) h)
        have HCN := Lib.hid (fun h => cnt_not (p := mk) (k := j + 1) h)
        have hc0 : 0 ≤ (cnt mk (j + 1) : Int) := by omega
        have hw0 : IntKind.i64.wrap (j : Int) = (j : Int) := IntWalk.i64_in _ (by omega)
        generalize hNN : cnt mk (j + 1 + 1) = N2 at *
        have HNN := Lib.hid hNN
        clear hNN
        generalize hN1 : cnt mk (j + 1) = N1 at *
        generalize hb : mk (j + 1) = mb at *
        generalize T (j + 1) = q at *
        generalize T j = u at *
        generalize r q = rq at *
        generalize r u = ru at *
        generalize s q = sq at *
        generalize s u = su at *
        have i1 : (q : Int) < (n : Int) := by omega
        have i2 : (u : Int) < (n : Int) := by omega
        have i3 : (j : Int) < (n : Int) := by omega
        have i4 : (j : Int) + 1 < (n : Int) := by omega
        have HN1 := Lib.hid hN1
        clear Y hy U hN1 hb
        by_cases h1 : rq = ru
        · have d3 : (rq != ru) = false := by rw [h1]; simp
          by_cases h2 : sq = su
          · have d4 : (sq != su) = false := by rw [h2]; simp
            have hcn := HCN.out (HM.out.trans (decide_eq_false (by omega)))
            have HYZ := Lib.hid (HYN.out ((N1 : Int) - 1) (by rw [hcn]))
            have HN2 := Lib.hid hcn
            clear h1 h2 hcn
            go_wp2_with fail
            go_quiet (first
              | (go_at_call 40; with_reducible exact Calls.quiet_of_same ((HS1.out _).mono fun _ _ h => ⟨h.1, h.2.symm⟩))
              | (go_at_call 40; with_reducible exact Calls.quiet_of_same ((HS2.out _).mono fun _ _ h => ⟨h.1, h.2.symm⟩)))
            go_wp2_with fail
            go_roundw
            case rel => exact ⟨j + 1 + 1, _, hlt, by rw [HNN.out, HN2.out] <;> go_num, by go_num, (HYZ.out nq).1, (HYZ.out nq).2.1, (HYZ.out nq).2.2⟩
            case measure => simp [intOf] <;> omega
          · have d4 : (sq != su) = true := by rw [bne_iff_ne]; exact h2
            have hcn := HCY.out (HM.out.trans (decide_eq_true (.inr h2)))
            have HYZ := Lib.hid (HYN.out (N1 : Int) (by rw [hcn]; omega))
            have HN2 := Lib.hid hcn
            clear h1 h2 hcn
            go_wp2_with fail
            go_quiet (first
              | (go_at_call 40; with_reducible exact Calls.quiet_of_same ((HS1.out _).mono fun _ _ h => ⟨h.1, h.2.symm⟩))
              | (go_at_call 40; with_reducible exact Calls.quiet_of_same ((HS2.out _).mono fun _ _ h => ⟨h.1, h.2.symm⟩)))
            go_wp2_with fail
            go_roundw
            case rel => exact ⟨j + 1 + 1, _, hlt, by rw [HNN.out, HN2.out] <;> go_num, by go_num, (HYZ.out nq).1, (HYZ.out nq).2.1, (HYZ.out nq).2.2⟩
            case measure => simp [intOf] <;> omega
        · have d3 : (rq != ru) = true := by rw [bne_iff_ne]; exact h1
          have hcn := HCY.out (HM.out.trans (decide_eq_true (.inl h1)))
          have HYZ := Lib.hid (HYN.out (N1 : Int) (by rw [hcn]; omega))
          have HN2 := Lib.hid hcn
          clear h1 hcn
          go_wp2_with fail
          go_quiet (fail)
          go_wp2_with fail
          go_roundw
          case rel => exact ⟨j + 1 + 1, _, hlt, by rw [HNN.out, HN2.out] <;> go_num, by go_num, (HYZ.out nq).1, (HYZ.out nq).2.1, (HYZ.out nq).2.2⟩
          case measure => simp [intOf] <;> omega
    · have d1 : decide ((n : Int) < (n : Int)) = false := decide_eq_false (by omega)
      have d2 : decide (n < n) = false := decide_eq_false (by omega)
      obtain rfl : n = k := by omega
      clear Y hy U
      go_wp2_with fail
      go_ret
      exact ⟨rfl, y, HYY.out, HY.out, HU.out⟩

set_option maxRecDepth 100000 in
set_option maxHeartbeats 12800000 in
theorem rank_next {w : World} {B n gT gr gi cT cr ci : Nat} {T : Nat → Nat} {r s x : Nat → Int} {c1 c2 c3 : Value} (hT : OwnF w B gT n cT (fun j => (T j : Int))) (hr : OwnF w B gr n cr r) (hi : OwnF w B gi n ci x)
    (n1 : gT ≠ gi) (n2 : gr ≠ gi) (hp : PermT n T) (hn : n ≤ 1000000)
    (hs : ∀ (i : Nat), i < n → ∀ W : World, TurnsIn (fun b => b = gi) w W → Calls Try.prog 41 #[.int .i32 i, c1, c2, c3] W fun e w' => e = .returned (.int .i32 (s i)) ∧ W = w') :
    Calls Try.prog 39 #[.slice (some ⟨gT, 0, none⟩) n cT, .slice (some ⟨gr, 0, none⟩) n cr, .slice (some ⟨gi, 0, none⟩) n ci, .func (.func 41) #[] #[c1, c2, c3]] w fun e w' =>
      e = .returned (.int .i64 (cnt (markT T r s) n)) ∧ ∃ y : Nat → Int, RankOk n T r s y ∧ OwnF w' B gi n ci y ∧ TurnsIn (fun b => b = gi) w w' := by
  have HT := Lib.hid (fun W (h : TurnsIn (fun b => b = gi) w W) => hT.out h n1)
  have HR := Lib.hid (fun W (h : TurnsIn (fun b => b = gi) w W) => hr.out h n2)
  have HP := Lib.hid hp
  have HS := Lib.hid hs
  have HI := Lib.hid hi
  have HT0 : Hid (TurnsIn (fun b => b = gi) w w) := Lib.hid (.refl _ _)
  have HC0 : Hid (cnt (markT T r s) 0 = 0) := Lib.hid rfl
  have HMK : Hid (∀ j, markT T r s (j + 1) = decide (r (T (j + 1)) ≠ r (T j) ∨ s (T (j + 1)) ≠ s (T j))) := Lib.hid (fun j => by unfold markT; rw [decide_eq_decide]; simp)
  have HM0 : Hid (markT T r s 0 = true) := Lib.hid mark_zero
  have HCL := Lib.hid (cnt_le (markT T r s))
  obtain ⟨mk, hmk⟩ : ∃ mk, markT T r s = mk := ⟨_, rfl⟩
  unfold RankOk
  rw [hmk] at HC0 HMK HM0 HCL ⊢
  clear hT hr hi hp hs hmk
  go_enter Try.func39, Try.ntmps39
  go_wp2_with fail
  go_loopw [9, 14] (fun sc sk wr => ∃ (k : Nat) (y : Nat → Int), k ≤ n ∧ sc = .int .i64 (cnt mk k) ∧ sk = .int .i64 k ∧ OwnF wr B gi n ci y ∧ (∀ j, j < k → y (T j) = (cnt mk (j + 1) : Int) - 1) ∧ TurnsIn (fun b => b = gi) w wr) (fun _ sk _ => n - (intOf sk).toNat)
  case atStart => exact ⟨0, x, Nat.zero_le _, by rw [HC0.out]; rfl, rfl, HI.out, fun j hj => absurd hj (by omega), HT0.out⟩
  case round =>
    clear HI HT0 HC0
    obtain ⟨k, y, hkn, rfl, rfl, Y, hy, U⟩ := hrel
    have HY := Lib.hid Y
    have HYY := Lib.hid hy
    have HU := Lib.hid U
    have hcl := HCL.out k
    by_cases hlt : k < n
    · have d1 : decide ((k : Int) < (n : Int)) = true := decide_eq_true (by omega)
      have d2 : decide (k < n) = true := decide_eq_true hlt
      have hTk := HP.out.lt k hlt
      have c1 := (HT.out wr U).cell hlt
      have c2 := (HR.out wr U).cell hTk
      have f1 := Y.frozen (T k)
      have c3 := Y.cell hTk
      have HYN : Hid (∀ (z : Int), z = (cnt mk (k + 1) : Int) - 1 → ∀ m : Nat, OwnF ((wr.drewN m).setCell ⟨gi, T k, none⟩ (.int .i32 z)) B gi n ci (fun q => if q = T k then z else y q) ∧ (∀ j, j < k + 1 → (if T j = T k then z else y (T j)) = (cnt mk (j + 1) : Int) - 1) ∧ TurnsIn (fun b => b = gi) w ((wr.drewN m).setCell ⟨gi, T k, none⟩ (.int .i32 z))) := Lib.hid (fun z hz m => by
        refine ⟨OwnF.put (show OwnF (wr.drewN m) B gi n ci y from Y) hTk z (fun j _ => rfl), fun j hj => ?_, (U.drewN m).setCell (.inl rfl) _⟩
        by_cases e : j = k
        · subst e; rw [if_pos rfl]; exact hz
        · rw [if_neg (fun h => e (HP.out.inj j k (by omega) hlt h))]
          exact hy j (by omega))
      cases k with
      | zero =>
        have HC1 := Lib.hid (cnt_yes HM0.out)
        have e0 : cnt mk 0 = 0 := rfl
        rw [e0] at HC1 ⊢
        have HYZ := Lib.hid (HYN.out 0 (by rw [HC1.out]; rfl))
        generalize T 0 = q at *
        have i1 : (q : Int) < (n : Int) := by omega
        clear Y hy U hcl
        go_wp2_with fail
        go_quiet (fail)
        go_wp2_with fail
        go_roundw
        case rel => exact ⟨1, _, hlt, by rw [HC1.out]; rfl, rfl, (HYZ.out nq).1, (HYZ.out nq).2.1, (HYZ.out nq).2.2⟩
        case measure => simp [intOf] <;> omega
      | succ j =>
        have hTj := HP.out.lt j (by omega)
        have c4 := (HT.out wr U).cell (i := j) (by omega)
        have c5 := (HR.out wr U).cell hTj
        have HM := Lib.hid (HMK.out j)
        have e0 : (((j + 1 : Nat) : Int) == 0) = false := by rw [beq_eq_false_iff_ne]; omega
        have e0' : ((j : Int) + 1 == 0) = false := by rw [beq_eq_false_iff_ne]; omega
        have HS1 := Lib.hid (fun m => HS.out (T (j + 1)) hTk (wr.drewN m) (U.drewN m))
        have HS2 := Lib.hid (fun m => HS.out (T j) hTj (wr.drewN m) (U.drewN m))
        have HCY := Lib.hid (fun h => cnt_yes (p := mk) (k := j + 1) h)
        have HCN := Lib.hid (fun h => cnt_not (p := mk) (k := j + 1) h)
        have hc0 : 0 ≤ (cnt mk (j + 1) : Int) := by omega
        have hw0 : IntKind.i64.wrap (j : Int) = (j : Int) := IntWalk.i64_in _ (by omega)
        generalize hNN : cnt mk (j + 1 + 1) = N2 at *
        have HNN := Lib.hid hNN
        clear hNN
        generalize hN1 : cnt mk (j + 1) = N1 at *
        generalize hb : mk (j + 1) = mb at *
        generalize T (j + 1) = q at *
        generalize T j = u at *
        generalize r q = rq at *
        generalize r u = ru at *
        generalize s q = sq at *
        generalize s u = su at *
        have i1 : (q : Int) < (n : Int) := by omega
        have i2 : (u : Int) < (n : Int) := by omega
        have i3 : (j : Int) < (n : Int) := by omega
        have i4 : (j : Int) + 1 < (n : Int) := by omega
        have HN1 := Lib.hid hN1
        clear Y hy U hN1 hb
        by_cases h1 : rq = ru
        · have d3 : (rq != ru) = false := by rw [h1]; simp
          by_cases h2 : sq = su
          · have d4 : (sq != su) = false := by rw [h2]; simp
            have hcn := HCN.out (HM.out.trans (decide_eq_false (by omega)))
            have HYZ := Lib.hid (HYN.out ((N1 : Int) - 1) (by rw [hcn]))
            have HN2 := Lib.hid hcn
            clear h1 h2 hcn
            go_wp2_with fail
            go_quiet (first
              | (go_at_call 41; with_reducible exact Calls.quiet_of_same ((HS1.out _).mono fun _ _ h => ⟨h.1, h.2.symm⟩))
              | (go_at_call 41; with_reducible exact Calls.quiet_of_same ((HS2.out _).mono fun _ _ h => ⟨h.1, h.2.symm⟩)))
            go_wp2_with fail
            go_roundw
            case rel => exact ⟨j + 1 + 1, _, hlt, by rw [HNN.out, HN2.out] <;> go_num, by go_num, (HYZ.out nq).1, (HYZ.out nq).2.1, (HYZ.out nq).2.2⟩
            case measure => simp [intOf] <;> omega
          · have d4 : (sq != su) = true := by rw [bne_iff_ne]; exact h2
            have hcn := HCY.out (HM.out.trans (decide_eq_true (.inr h2)))
            have HYZ := Lib.hid (HYN.out (N1 : Int) (by rw [hcn]; omega))
            have HN2 := Lib.hid hcn
            clear h1 h2 hcn
            go_wp2_with fail
            go_quiet (first
              | (go_at_call 41; with_reducible exact Calls.quiet_of_same ((HS1.out _).mono fun _ _ h => ⟨h.1, h.2.symm⟩))
              | (go_at_call 41; with_reducible exact Calls.quiet_of_same ((HS2.out _).mono fun _ _ h => ⟨h.1, h.2.symm⟩)))
            go_wp2_with fail
            go_roundw
            case rel => exact ⟨j + 1 + 1, _, hlt, by rw [HNN.out, HN2.out] <;> go_num, by go_num, (HYZ.out nq).1, (HYZ.out nq).2.1, (HYZ.out nq).2.2⟩
            case measure => simp [intOf] <;> omega
        · have d3 : (rq != ru) = true := by rw [bne_iff_ne]; exact h1
          have hcn := HCY.out (HM.out.trans (decide_eq_true (.inl h1)))
          have HYZ := Lib.hid (HYN.out (N1 : Int) (by rw [hcn]; omega))
          have HN2 := Lib.hid hcn
          clear h1 hcn
          go_wp2_with fail
          go_quiet (fail)
          go_wp2_with fail
          go_roundw
          case rel => exact ⟨j + 1 + 1, _, hlt, by rw [HNN.out, HN2.out] <;> go_num, by go_num, (HYZ.out nq).1, (HYZ.out nq).2.1, (HYZ.out nq).2.2⟩
          case measure => simp [intOf] <;> omega
    · have d1 : decide ((n : Int) < (n : Int)) = false := decide_eq_false (by omega)
      have d2 : decide (n < n) = false := decide_eq_false (by omega)
      obtain rfl : n = k := by omega
      clear Y hy U
      go_wp2_with fail
      go_ret
      exact ⟨rfl, y, HYY.out, HY.out, HU.out⟩
end Go.Proofs.Ytlcnbepldkbkgaa.Sx
