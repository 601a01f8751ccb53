/-
  Layer 15, match: the document's word on pieces; how many bytes are the same: both functions: contracts. Conditions: as each theorem names.
-/
import Derived.Test.YtlojimhllbicjaaMMtA
import Derived.Deep.QuietTactic
import Derived.BigQuiet
namespace Go.Proofs.Ytlojimhllbicjaa.Mt
open Go.ChangeShapes Go.WideShapes Go.ChangeAt Go.RowKit Go.Proofs.Ytlojimhllbicjaa.Kit

def endAt (ps : List Pc) : Nat → Int
  | 0 => 0
  | i + 1 => (ps.getD i ⟨0, 0, 0⟩).n + (ps.getD i ⟨0, 0, 0⟩).l
theorem endAt_succ {ps : List Pc} {i : Nat} (h : i < ps.length) : endAt ps (i + 1) = ps[i].n + ps[i].l := by
  unfold endAt
  simp [List.getD, List.getElem?_eq_getElem h]
theorem mayL_no {old new e : Int} {p : Pc} {ps : List Pc} (h : oneB old new p = false) : mayL old new e (p :: ps) = false := by rw [mayL, h]; rfl
theorem mayL_far {old new e : Int} {p : Pc} {ps : List Pc} (h : p.n < e) : mayL old new e (p :: ps) = false := by rw [mayL, decide_eq_false (by omega : ¬ e ≤ p.n)]; simp
theorem one_bd {old new : Int} {p : Pc} (h : oneB old new p = true) : 1 ≤ p.l ∧ 0 ≤ p.n ∧ 0 ≤ p.o ∧ p.n ≤ new ∧ p.o ≤ old ∧ p.l ≤ new - p.n ∧ p.l ≤ old - p.o := of_decide_eq_true h
theorem mayL_one {old new : Int} {p : Pc} : mayL old new 0 [p] = oneB old new p := by
  cases h : oneB old new p with
  | false => exact mayL_no h
  | true =>
    have := one_bd h
    rw [mayL_good h (by omega), mayL]

set_option maxRecDepth 100000 in
set_option maxHeartbeats 6400000 in
theorem rmay_any (A : Option Addr) (ps : List Pc) (c : Nat) (old new : Int) (w : World) (hl : ps.length ≤ 1000000) (hok : ∀ p ∈ ps, PcOk p) (ho : 0 ≤ old ∧ old ≤ 1000000) (hn : 0 ≤ new ∧ new ≤ 1000000) (hr : HoldsP w w.heap.size A ps) :
    Calls Try.prog 9 #[.slice A ps.length c, .int .i64 old, .int .i64 new] w fun e w' => e = .returned (.bool (mayL old new 0 ps)) ∧ Below w.heap.size w w' := by
  obtain ⟨D, hD⟩ : ∃ D, mayL old new 0 ps = D := ⟨_, rfl⟩
  rw [hD]
  have HD : Hid (mayL old new (endAt ps 0) (ps.drop 0) = D) := Lib.hid (by simpa [endAt] using hD)
  have HO := Lib.hid hok
  clear hD hok
  go_enter Try.func9, Try.ntmps9
  go_wp2
  go_loopw [10] (fun i wr => ∃ j : Nat, j ≤ ps.length ∧ i = .int .i64 j ∧ Hid (∀ i, j = i + 1 → ∀ h : i < ps.length, oneB old new ps[i] = true) ∧ Hid (mayL old new (endAt ps j) (ps.drop j) = D) ∧ Below w.heap.size w wr) (fun i _ => ps.length - (intOf i).toNat)
  case atStart => exact ⟨0, Nat.zero_le _, rfl, Lib.hid (fun i hi => absurd hi (by omega)), HD, Below.refl _ _⟩
  case round =>
    obtain ⟨j, hj, rfl, HP, HM, hB⟩ := hrel
    clear HD
    by_cases hlt : j < ps.length
    · have d1 : decide ((j : Int) < (ps.length : Int)) = true := decide_eq_true (by omega)
      have d2 : decide (j < ps.length) = true := decide_eq_true hlt
      have hd : ps.drop j = ps[j] :: ps.drop (j + 1) := List.drop_eq_getElem_cons hlt
      have hend := Lib.hid (endAt_succ hlt)
      obtain ⟨b, off, rfl, hbB, hc⟩ := (hr.below hB) (by omega)
      obtain ⟨h0, h1, h2⟩ := hc j ps[j] (List.getElem?_eq_getElem hlt)
      have hp := HO.out ps[j] (List.getElem_mem hlt)
      have hm := HM.out
      rw [hd] at hm
      clear HM hd
      have HM := Lib.hid hm
      clear hm
      have GO := Lib.hid (fun W => one_any ps[j].n ps[j].o ps[j].l old new W hp ho hn)
      have hprev : j = 0 ∨ ∃ (i : Nat) (q : Pc), j = i + 1 ∧ endAt ps j = q.n + q.l ∧ oneB old new q = true ∧ wr.cell? ⟨b, off + i * 3, none⟩ = some (.int .i64 q.n) ∧ wr.cell? ⟨b, off + i * 3 + 2, none⟩ = some (.int .i64 q.l) := by
        rcases j with _ | i
        · exact .inl rfl
        · obtain ⟨g0, g1, g2⟩ := hc i ps[i] (List.getElem?_eq_getElem (by omega))
          exact .inr ⟨i, ps[i], rfl, endAt_succ (by omega), HP.out i rfl (by omega), g0, g2⟩
      have hone : ∀ t : Bool, oneB old new ps[j] = t → Hid (∀ i, j + 1 = i + 1 → ∀ h : i < ps.length, oneB old new ps[i] = t) := fun t ht => Lib.hid (fun i hi h => by
        obtain rfl : j = i := by omega
        exact ht)
      clear hc HP
      generalize ps[j] = p at *
      obtain ⟨pn, po, pl⟩ := p
      obtain ⟨hpn, hpo, hpl⟩ := hp
      simp only at h0 h1 h2 hpn hpo hpl hend GO
      obtain ⟨t, ht⟩ : ∃ t, oneB old new ⟨pn, po, pl⟩ = t := ⟨_, rfl⟩
      cases t with
      | false =>
        have HF : Hid (D = false) := Lib.hid (HM.out.symm.trans (mayL_no ht))
        rw [ht] at GO
        clear HM hone hprev ht hend
        go_wp2_with (first | (go_at_call 15; (with_reducible refine (GO.out _).mono ?_); rintro e w1 ⟨rfl, hb1⟩; have hB1 := hB.trans (hb1.mono hB.size)))
        go_ret
        exact ⟨by rw [HF.out]; rfl, hB1⟩
      | true =>
        have HT := hone true ht
        have hbd := one_bd ht
        simp only at hbd
        have HG : ∀ e, e ≤ pn → mayL old new e (⟨pn, po, pl⟩ :: ps.drop (j + 1)) = mayL old new (pn + pl) (ps.drop (j + 1)) := fun e he => mayL_good ht he
        have HB2 : ∀ e, pn < e → mayL old new e (⟨pn, po, pl⟩ :: ps.drop (j + 1)) = false := fun e he => mayL_far he
        rw [ht] at GO
        clear hone ht
        rcases hprev with hj0 | ⟨i, q, hji, hen, hq, g0, g2⟩
        · have d3 : decide ((0 : Int) < (j : Int)) = false := decide_eq_false (by omega)
          have d4 : decide (0 < j) = false := decide_eq_false (by omega)
          have HN : Hid (mayL old new (endAt ps (j + 1)) (ps.drop (j + 1)) = D) := Lib.hid (by rw [hend.out, ← HM.out, ← HG (endAt ps j) (by rw [hj0, endAt]; omega)])
          clear HM HG HB2 hj0 hend
          go_wp2_with (first | (go_at_call 15; (with_reducible refine (GO.out _).mono ?_); rintro e w1 ⟨rfl, hb1⟩; have hB1 := hB.trans (hb1.mono hB.size)))
          go_quiet (fail)
          go_wp2_with fail
          go_roundw
          case rel => exact ⟨j + 1, hlt, by go_num, HT, HN, below_draws hB1 _⟩
          case measure => simp [intOf] <;> omega
        · have d3 : decide ((0 : Int) < (j : Int)) = true := decide_eq_true (by omega)
          have d4 : decide (0 < j) = true := decide_eq_true (by omega)
          have hqb := one_bd hq
          obtain ⟨qn, qo, ql⟩ := q
          simp only at hqb g0 g2 hen
          have w1' : IntKind.i64.wrap ((j : Int) - 1) = (i : Int) := by rw [IntWalk.i64_in _ (by omega)]; omega
          have w2' : IntKind.i64.wrap (pn - qn) = pn - qn := IntWalk.i64_in _ (by omega)
          have hil : i < ps.length := by omega
          have hbs : b < wr.heap.size := World.block_lt_of_cell? _ _ h0
          by_cases hf : pn - qn < ql
          · have d5 : decide (pn - qn < ql) = true := decide_eq_true hf
            have HF : Hid (D = false) := Lib.hid (HM.out.symm.trans (HB2 _ (by rw [hen]; omega)))
            clear HM HG HB2 hen hji hend HT
            go_wp2_with (first | (go_at_call 15; (with_reducible refine (GO.out _).mono ?_); rintro e w2 ⟨rfl, hb1⟩; have hB1 := hB.trans (hb1.mono hB.size); have k0 := (hb1.cell (p := ⟨b, _, none⟩) hbs).trans h0; have k1 := (hb1.cell (p := ⟨b, _, none⟩) hbs).trans g0; have k2 := (hb1.cell (p := ⟨b, _, none⟩) hbs).trans g2))
            go_quiet (fail)
            go_wp2_with fail
            go_ret
            exact ⟨by rw [HF.out]; rfl, below_draws hB1 _⟩
          · have d5 : decide (pn - qn < ql) = false := decide_eq_false hf
            have HN : Hid (mayL old new (endAt ps (j + 1)) (ps.drop (j + 1)) = D) := Lib.hid (by rw [hend.out, ← HM.out, ← HG (endAt ps j) (by rw [hen]; omega)])
            clear HM HG HB2 hen hji hend
            go_wp2_with (first | (go_at_call 15; (with_reducible refine (GO.out _).mono ?_); rintro e w2 ⟨rfl, hb1⟩; have hB1 := hB.trans (hb1.mono hB.size); have k0 := (hb1.cell (p := ⟨b, _, none⟩) hbs).trans h0; have k1 := (hb1.cell (p := ⟨b, _, none⟩) hbs).trans g0; have k2 := (hb1.cell (p := ⟨b, _, none⟩) hbs).trans g2))
            go_quiet (fail)
            go_wp2_with fail
            go_roundw
            case rel => exact ⟨j + 1, hlt, by go_num, HT, HN, below_draws hB1 _⟩
            case measure => simp [intOf] <;> omega
    · obtain rfl : j = ps.length := by omega
      have d1 : decide ((ps.length : Int) < (ps.length : Int)) = false := decide_eq_false (by omega)
      have d2 : decide (ps.length < ps.length) = false := decide_eq_false (by omega)
      have hm := HM.out
      rw [List.drop_eq_nil_of_le (Nat.le_refl _), mayL] at hm
      subst hm
      clear HM
      go_wp2
      go_ret
      exact ⟨rfl, hB⟩

/-- How many of the first k bytes are the same. -/
def sameN (xs ys : List Int) (o n : Nat) : Nat → Nat
  | 0 => 0
  | k + 1 => sameN xs ys o n k + if xs[o + k]?.getD 0 = ys[n + k]?.getD 0 then 1 else 0
theorem sameN_le (xs ys : List Int) (o n k : Nat) : sameN xs ys o n k ≤ k := by
  induction k with
  | zero => exact Nat.le_refl _
  | succ k ih => unfold sameN; split <;> omega
def sameL (xs ys : List Int) (p : Pc) : Int := if oneB xs.length ys.length p = true then sameN xs ys p.o.toNat p.n.toNat p.l.toNat else 0

set_option maxRecDepth 100000 in
set_option maxHeartbeats 6400000 in
theorem same_any (A1 : Option Addr) (xs : List Int) (c1 : Nat) (A2 : Option Addr) (ys : List Int) (c2 : Nat) (n o l : Int) (w : World) (hp : PcOk ⟨n, o, l⟩) (hx : xs.length ≤ 1000000) (hy : ys.length ≤ 1000000) (r1 : Holds w w.heap.size .u8 A1 xs) (r2 : Holds w w.heap.size .u8 A2 ys) :
    Calls Try.prog 10 #[.slice A1 xs.length c1, .slice A2 ys.length c2, .agg #[.int .i64 n, .int .i64 o, .int .i64 l]] w fun e w' => e = .returned (.int .i64 (sameL xs ys ⟨n, o, l⟩)) ∧ Below w.heap.size w w' := by
  have B1 := below_last w (.cells #[.int .i64 n, .int .i64 o, .int .i64 l] 25)
  have blk := Block.new w 25 #[.int .i64 n, .int .i64 o, .int .i64 l]
  have q0 : (w.alloc (.cells #[.int .i64 n, .int .i64 o, .int .i64 l] 25)).cell? ⟨w.heap.size, 0, none⟩ = some (.int .i64 n) := blk.cell 0
  have q1 : (w.alloc (.cells #[.int .i64 n, .int .i64 o, .int .i64 l] 25)).cell? ⟨w.heap.size, 1, none⟩ = some (.int .i64 o) := blk.cell 1
  have q2 : (w.alloc (.cells #[.int .i64 n, .int .i64 o, .int .i64 l] 25)).cell? ⟨w.heap.size, 2, none⟩ = some (.int .i64 l) := blk.cell 2
  have blk2 := Block.new (w.alloc (.cells #[.int .i64 n, .int .i64 o, .int .i64 l] 25)) 25 #[.int .i64 n, .int .i64 o, .int .i64 l]
  rw [show (w.alloc (.cells #[.int .i64 n, .int .i64 o, .int .i64 l] 25)).heap.size = w.heap.size + 1 by simp] at blk2
  have B2 := B1.alloc B1.size (.cells #[.int .i64 n, .int .i64 o, .int .i64 l] 25)
  have hP : HoldsP ((w.alloc (.cells #[.int .i64 n, .int .i64 o, .int .i64 l] 25)).alloc (.cells #[.int .i64 n, .int .i64 o, .int .i64 l] 25)) ((w.alloc (.cells #[.int .i64 n, .int .i64 o, .int .i64 l] 25)).alloc (.cells #[.int .i64 n, .int .i64 o, .int .i64 l] 25)).heap.size (some ⟨w.heap.size + 1, 0, none⟩) [⟨n, o, l⟩] := by
    intro _
    refine ⟨_, 0, rfl, by simp, fun i p hi => ?_⟩
    rcases i with _ | i
    · obtain rfl : _ = p := by simpa using hi
      exact ⟨blk2.cell 0, blk2.cell 1, blk2.cell 2⟩
    · simp at hi
  have hb12 : Below (w.heap.size + 1) (w.alloc (.cells #[.int .i64 n, .int .i64 o, .int .i64 l] 25)) ((w.alloc (.cells #[.int .i64 n, .int .i64 o, .int .i64 l] 25)).alloc (.cells #[.int .i64 n, .int .i64 o, .int .i64 l] 25)) := (Below.refl _ _).alloc (by simp) _
  have q0' := (hb12.cell (p := ⟨w.heap.size, 0, none⟩) (by simp)).trans q0
  have q1' := (hb12.cell (p := ⟨w.heap.size, 1, none⟩) (by simp)).trans q1
  have q2' := (hb12.cell (p := ⟨w.heap.size, 2, none⟩) (by simp)).trans q2
  clear hb12
  have GM := may_any (some ⟨w.heap.size + 1, 0, none⟩) [⟨n, o, l⟩] 1 xs.length ys.length _ (by simp) (fun p hp' => by have e9 : p = ⟨n, o, l⟩ := (by simpa using hp'); rw [e9]; exact hp) (by omega) (by omega) hP
  rw [mayL_one] at GM
  change Calls Try.prog 8 #[.slice (some ⟨w.heap.size + 1, 0, none⟩) 1 1, _, _] _ _ at GM
  have KM := Lib.hid GM
  clear GM hP blk2
  have HS : Hid (sameL xs ys ⟨n, o, l⟩ = if oneB xs.length ys.length ⟨n, o, l⟩ = true then (sameN xs ys o.toNat n.toNat l.toNat : Int) else 0) := Lib.hid rfl
  generalize sameL xs ys ⟨n, o, l⟩ = D at *
  obtain ⟨t, ht⟩ : ∃ t, oneB xs.length ys.length ⟨n, o, l⟩ = t := ⟨_, rfl⟩
  cases t with
  | false =>
    rw [ht] at HS KM
    rw [if_neg (by decide)] at HS
    clear ht hp blk
    go_enter Try.func10, Try.ntmps10
    go_wp2_with (first | (go_at_call 8; (with_reducible refine KM.out.mono ?_); rintro e w1 ⟨rfl, hb1⟩; have hB1 := B2.trans (hb1.mono B2.size)))
    go_ret
    exact ⟨by rw [HS.out]; rfl, hB1⟩
  | true =>
    rw [ht] at HS KM
    rw [if_pos rfl] at HS
    have hbd := one_bd ht
    simp only at hbd
    obtain ⟨N, rfl⟩ : ∃ N : Nat, n = (N : Int) := ⟨n.toNat, by omega⟩
    obtain ⟨O, rfl⟩ : ∃ O : Nat, o = (O : Int) := ⟨o.toNat, by omega⟩
    obtain ⟨L, rfl⟩ : ∃ L : Nat, l = (L : Int) := ⟨l.toNat, by omega⟩
    rw [Int.toNat_natCast, Int.toNat_natCast, Int.toNat_natCast] at HS
    have HW : Hid (∀ k, sameN xs ys O N (k + 1) = sameN xs ys O N k + if xs[O + k]?.getD 0 = ys[N + k]?.getD 0 then 1 else 0) := Lib.hid (fun _ => rfl)
    have HLE := Lib.hid (sameN_le xs ys O N)
    have hon : O + L ≤ xs.length ∧ N + L ≤ ys.length ∧ 1 ≤ L := by omega
    clear ht hp blk hbd
    go_enter Try.func10, Try.ntmps10
    go_wp2_with (first | (go_at_call 8; (with_reducible refine KM.out.mono ?_); rintro e w1 ⟨rfl, hb1⟩; have hB1 := B2.trans (hb1.mono B2.size); have k0 := (hb1.cell (p := ⟨w.heap.size, 0, none⟩) (by simp <;> omega)).trans q0'; have k1 := (hb1.cell (p := ⟨w.heap.size, 1, none⟩) (by simp <;> omega)).trans q1'; have k2 := (hb1.cell (p := ⟨w.heap.size, 2, none⟩) (by simp <;> omega)).trans q2'; have R1 := r1.below hB1; have R2 := r2.below hB1))
    go_loopw [7, 19] (fun s i wr => ∃ k : Nat, k ≤ L ∧ i = .int .i64 k ∧ s = .int .i64 (sameN xs ys O N k : Int) ∧ ∃ q, wr = w1.drewN q) (fun _ i _ => L - (intOf i).toNat)
    case atStart => exact ⟨0, Nat.zero_le _, rfl, rfl, 0, rfl⟩
    case round =>
      obtain ⟨k, hk, rfl, rfl, q, rfl⟩ := hrel
      have hle := HLE.out k
      by_cases hlt : k < L
      · have d1 : decide ((k : Int) < (L : Int)) = true := decide_eq_true (by omega)
        have d2 : decide (k < L) = true := decide_eq_true hlt
        obtain ⟨b, off, rfl, hbB, hc⟩ := R1 (by omega)
        obtain ⟨b', off', rfl, hbB', hc'⟩ := R2 (by omega)
        have e1 := hc (O + k) (by omega)
        have e2 := hc' (N + k) (by omega)
        rw [show xs.getD (O + k) 0 = xs[O + k]?.getD 0 by simp [List.getD]] at e1
        rw [show ys.getD (N + k) 0 = ys[N + k]?.getD 0 by simp [List.getD]] at e2
        have v1 : IntKind.i64.wrap ((O : Int) + (k : Int)) = ((O + k : Nat) : Int) := by rw [IntWalk.i64_in _ (by omega)]; omega
        have v2 : IntKind.i64.wrap ((N : Int) + (k : Int)) = ((N + k : Nat) : Int) := by rw [IntWalk.i64_in _ (by omega)]; omega
        have l1 : O + k < xs.length := by omega
        have l2 : N + k < ys.length := by omega
        have hw := HW.out k
        clear hc hc'
        have HWk := Lib.hid hw
        clear hw
        by_cases hxy : xs[O + k]?.getD 0 = ys[N + k]?.getD 0
        · have HX := Lib.hid hxy
          rw [← hxy] at e2
          clear hxy
          generalize xs[O + k]?.getD 0 = x at *
          generalize sameN xs ys O N k = m at *
          go_wp2_with fail
          go_quiet (fail)
          go_wp2_with fail
          go_roundw
          case rel => exact ⟨k + 1, hlt, by go_num, by rw [HWk.out, if_pos HX.out]; go_num, _, rfl⟩
          case measure => simp [intOf] <;> omega
        · have HX := Lib.hid hxy
          have hne := hxy
          clear hxy
          generalize xs[O + k]?.getD 0 = x at *
          generalize ys[N + k]?.getD 0 = y at *
          generalize sameN xs ys O N k = m at *
          have hf : (x == y) = false := by simpa using hne
          clear hne
          go_wp2_with fail
          go_quiet (fail)
          go_wp2_with fail
          go_roundw
          case rel => exact ⟨k + 1, hlt, by go_num, by rw [HWk.out, if_neg HX.out, Nat.add_zero], _, rfl⟩
          case measure => simp [intOf] <;> omega
      · obtain rfl : k = L := by omega
        have d1 : decide ((k : Int) < (k : Int)) = false := decide_eq_false (by omega)
        have d2 : decide (k < k) = false := decide_eq_false (by omega)
        go_wp2_with fail
        go_ret
        exact ⟨by rw [HS.out]; rfl, below_draws hB1 _⟩

set_option maxRecDepth 100000 in
set_option maxHeartbeats 6400000 in
theorem rsame_any (A1 : Option Addr) (xs : List Int) (c1 : Nat) (A2 : Option Addr) (ys : List Int) (c2 : Nat) (n o l : Int) (w : World) (hp : PcOk ⟨n, o, l⟩) (hx : xs.length ≤ 1000000) (hy : ys.length ≤ 1000000) (r1 : Holds w w.heap.size .u8 A1 xs) (r2 : Holds w w.heap.size .u8 A2 ys) :
    Calls Try.prog 11 #[.slice A1 xs.length c1, .slice A2 ys.length c2, .agg #[.int .i64 n, .int .i64 o, .int .i64 l]] w fun e w' => e = .returned (.int .i64 (sameL xs ys ⟨n, o, l⟩)) ∧ Below w.heap.size w w' := by
  have B1 := below_last w (.cells #[.int .i64 n, .int .i64 o, .int .i64 l] 25)
  have blk := Block.new w 25 #[.int .i64 n, .int .i64 o, .int .i64 l]
  have q0 : (w.alloc (.cells #[.int .i64 n, .int .i64 o, .int .i64 l] 25)).cell? ⟨w.heap.size, 0, none⟩ = some (.int .i64 n) := blk.cell 0
  have q1 : (w.alloc (.cells #[.int .i64 n, .int .i64 o, .int .i64 l] 25)).cell? ⟨w.heap.size, 1, none⟩ = some (.int .i64 o) := blk.cell 1
  have q2 : (w.alloc (.cells #[.int .i64 n, .int .i64 o, .int .i64 l] 25)).cell? ⟨w.heap.size, 2, none⟩ = some (.int .i64 l) := blk.cell 2
  have GM := Lib.hid (fun W => one_any n o l xs.length ys.length W hp (by omega) (by omega))
  have B2 := B1
  have HS : Hid (sameL xs ys ⟨n, o, l⟩ = if oneB xs.length ys.length ⟨n, o, l⟩ = true then (sameN xs ys o.toNat n.toNat l.toNat : Int) else 0) := Lib.hid rfl
  generalize sameL xs ys ⟨n, o, l⟩ = D at *
  obtain ⟨t, ht⟩ : ∃ t, oneB xs.length ys.length ⟨n, o, l⟩ = t := ⟨_, rfl⟩
  cases t with
  | false =>
    rw [ht] at HS GM
    rw [if_neg (by decide)] at HS
    clear ht hp blk
    go_enter Try.func11, Try.ntmps11
    go_wp2_with (first | (go_at_call 15; (with_reducible refine (GM.out _).mono ?_); rintro e w1 ⟨rfl, hb1⟩; have hB1 := B2.trans (hb1.mono B2.size)))
    go_ret
    exact ⟨by rw [HS.out]; rfl, hB1⟩
  | true =>
    rw [ht] at HS GM
    rw [if_pos rfl] at HS
    have hbd := one_bd ht
    simp only at hbd
    obtain ⟨N, rfl⟩ : ∃ N : Nat, n = (N : Int) := ⟨n.toNat, by omega⟩
    obtain ⟨O, rfl⟩ : ∃ O : Nat, o = (O : Int) := ⟨o.toNat, by omega⟩
    obtain ⟨L, rfl⟩ : ∃ L : Nat, l = (L : Int) := ⟨l.toNat, by omega⟩
    rw [Int.toNat_natCast, Int.toNat_natCast, Int.toNat_natCast] at HS
    have HW : Hid (∀ k, sameN xs ys O N (k + 1) = sameN xs ys O N k + if xs[O + k]?.getD 0 = ys[N + k]?.getD 0 then 1 else 0) := Lib.hid (fun _ => rfl)
    have HLE := Lib.hid (sameN_le xs ys O N)
    have hon : O + L ≤ xs.length ∧ N + L ≤ ys.length ∧ 1 ≤ L := by omega
    clear ht hp blk hbd
    go_enter Try.func11, Try.ntmps11
    go_wp2_with (first | (go_at_call 15; (with_reducible refine (GM.out _).mono ?_); rintro e w1 ⟨rfl, hb1⟩; have hB1 := B2.trans (hb1.mono B2.size); have k0 := (hb1.cell (p := ⟨w.heap.size, 0, none⟩) (by simp <;> omega)).trans q0; have k1 := (hb1.cell (p := ⟨w.heap.size, 1, none⟩) (by simp <;> omega)).trans q1; have k2 := (hb1.cell (p := ⟨w.heap.size, 2, none⟩) (by simp <;> omega)).trans q2; have R1 := r1.below hB1; have R2 := r2.below hB1))
    go_loopw [7, 8] (fun s i wr => ∃ k : Nat, k ≤ L ∧ i = .int .i64 k ∧ s = .int .i64 (sameN xs ys O N k : Int) ∧ ∃ q, wr = w1.drewN q) (fun _ i _ => L - (intOf i).toNat)
    case atStart => exact ⟨0, Nat.zero_le _, rfl, rfl, 0, rfl⟩
    case round =>
      obtain ⟨k, hk, rfl, rfl, q, rfl⟩ := hrel
      have hle := HLE.out k
      by_cases hlt : k < L
      · have d1 : decide ((k : Int) < (L : Int)) = true := decide_eq_true (by omega)
        have d2 : decide (k < L) = true := decide_eq_true hlt
        obtain ⟨b, off, rfl, hbB, hc⟩ := R1 (by omega)
        obtain ⟨b', off', rfl, hbB', hc'⟩ := R2 (by omega)
        have e1 := hc (O + k) (by omega)
        have e2 := hc' (N + k) (by omega)
        rw [show xs.getD (O + k) 0 = xs[O + k]?.getD 0 by simp [List.getD]] at e1
        rw [show ys.getD (N + k) 0 = ys[N + k]?.getD 0 by simp [List.getD]] at e2
        have v1 : IntKind.i64.wrap ((O : Int) + (k : Int)) = ((O + k : Nat) : Int) := by rw [IntWalk.i64_in _ (by omega)]; omega
        have v2 : IntKind.i64.wrap ((N : Int) + (k : Int)) = ((N + k : Nat) : Int) := by rw [IntWalk.i64_in _ (by omega)]; omega
        have l1 : O + k < xs.length := by omega
        have l2 : N + k < ys.length := by omega
        have hw := HW.out k
        clear hc hc'
        have HWk := Lib.hid hw
        clear hw
        by_cases hxy : xs[O + k]?.getD 0 = ys[N + k]?.getD 0
        · have HX := Lib.hid hxy
          rw [← hxy] at e2
          clear hxy
          generalize xs[O + k]?.getD 0 = x at *
          generalize sameN xs ys O N k = m at *
          go_wp2_with fail
          go_quiet (fail)
          go_wp2_with fail
          go_roundw
          case rel => exact ⟨k + 1, hlt, by go_num, by rw [HWk.out, if_pos HX.out]; go_num, _, rfl⟩
          case measure => simp [intOf] <;> omega
        · have HX := Lib.hid hxy
          have hne := hxy
          clear hxy
          generalize xs[O + k]?.getD 0 = x at *
          generalize ys[N + k]?.getD 0 = y at *
          generalize sameN xs ys O N k = m at *
          have hf : (x == y) = false := by simpa using hne
          clear hne
          go_wp2_with fail
          go_quiet (fail)
          go_wp2_with fail
          go_roundw
          case rel => exact ⟨k + 1, hlt, by go_num, by rw [HWk.out, if_neg HX.out, Nat.add_zero], _, rfl⟩
          case measure => simp [intOf] <;> omega
      · obtain rfl : k = L := by omega
        have d1 : decide ((k : Int) < (k : Int)) = false := decide_eq_false (by omega)
        have d2 : decide (k < k) = false := decide_eq_false (by omega)
        go_wp2_with fail
        go_ret
        exact ⟨by rw [HS.out]; rfl, below_draws hB1 _⟩
end Go.Proofs.Ytlojimhllbicjaa.Mt
