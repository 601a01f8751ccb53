/-
  ImageApart: the walk: what is put is seen in its slot alone; what is kept aside changes no slot, nor the other way round.
-/
import Derived.Test.YtpnodocjpedcmaaDoorMImR
namespace Go.Proofs.YtpnodocjpedcmaaDoor.ImageApart
open Go.ChangeShapes Go.WideShapes Go.ChangeAt Go.RowKit Go.Proofs.YtpnodocjpedcmaaDoor.Kit Go.Proofs.YtpnodocjpedcmaaDoor.Pt Go.Proofs.YtpnodocjpedcmaaDoor.Im
open Go.Proofs.YtpnodocjpedcmaaDoor.Sec (new_any Dev Dv DvAt DSet NewDev GivesB)
open Go.Proofs.YtpnodocjpedcmaaDoor.Sha (LaidS sumL sumL_length)

theorem blast (w : World) (o : Obj) : Below w.heap.size w (w.alloc o) := (Below.refl _ _).alloc (Nat.le_refl _) _

theorem arr_eq (ys : List Int) (h : ys.length = 32) (w : World) : (binOp .eql 48 (arrV .u8 ys) (arrV .u8 ys)).run Tryd.prog w = .ok (.bool true) w := by
  have := run_eql_arr (P := Tryd.prog) (w := w) (t := 48) (e := 5) (k := .u8) (k' := .u8) ys ys (by rw [h]; exact Tryd.underlying48) (Option.eq_some_of_isSome (by kernel_rfl)) (by kernel_rfl) Tryd.underlying5 (by kernel_rfl) rfl
  rwa [decide_eq_true rfl] at this

theorem load_arrG {P : Program} {w : World} {ops : Array Oper} {rest : List Oper} {o : Oper} {a : Act} {Q : Exit → Act → World → Prop} (hw : Region.wanted o (yielded ops a.tmps) = true) (ty : TypeId) (x : Operand) (ho : o.op = .load ty x)
    {g : Nat} {t : TypeId} {k : IntKind} {xs : List Int} (h : Arr w g t k xs) (hx : a.eval x = .pointer (some ⟨g, 0, none⟩)) {d : TypeDesc} (hu : P.underlying ty = some d) (hd : d.isRow = true) (hi : (P.info? ty).map (·.size) = some xs.length)
    (hK : wpList P ops Q rest (a.put o.dst (arrV k xs)) w) : wpList P ops Q (o :: rest) a w :=
  wpList_step fun K hK' => by
    rw [if_pos hw]
    exact wp_load_mid ty x ho g 0 hx (xs.map (Value.int k)) d h.range hu hd (by simpa using hi) (hK' _ _ hK)
theorem dig_guards (ys : List Int) (x y : Operand) (w : World) : (eqGuard .eql 48 x y (arrV .u8 ys) (arrV .u8 ys)).run Tryd.prog w = .ok () w := run_eqGuard_agg w .eql 48 x y _ _ (by kernel_rfl)
/-- A sum equals itself, where a guard may stand. -/
theorem eql_self {w : World} {ops : Array Oper} {rest : List Oper} {o : Oper} {a : Act} {Q : Exit → Act → World → Prop} (hw : Region.wanted o (yielded ops a.tmps) = true) (x y : Operand) (tt : TypeId) (ho : o.op = .binOp .eql 48 x y tt)
    {ys : List Int} (hy : ys.length = 32) (hx : a.eval x = arrV .u8 ys) (hyv : a.eval y = arrV .u8 ys) (hK : wpList Tryd.prog ops Q rest (a.put o.dst (.bool true)) w) : wpList Tryd.prog ops Q (o :: rest) a w :=
  wpList_step fun K hK' => by
    rw [if_pos hw]
    have h1 := arr_eq ys hy w
    have h2 := dig_guards ys x y w
    unfold Oper.wp execOp
    simp only [ho, hx, hyv, Sem.run_bind, Sem.run_pure, h2, Result.andThen_ok, h1]
    exact hK' _ _ hK

set_option maxRecDepth 100000 in
set_option maxHeartbeats 12800000 in
theorem walk (S B sl i k : Int) (A : Option Addr) (bs : List Int) (c : Nat) (A' : Option Addr) (cs : List Int) (c' : Nat) (w : World) (_ : (Lit.int .i64 S).wf = true) (_ : (Lit.int .i64 B).wf = true) (_ : (Lit.int .i64 sl).wf = true) (hi : (Lit.int .u8 i).wf = true) (hk : (Lit.int .i64 k).wf = true)
    (hl : bs.length ≤ c) (hm : c ≤ maxLen) (ho : Octets bs) (hr : Holds w w.heap.size .u8 A bs) (hl' : cs.length ≤ c') (hm' : c' ≤ maxLen) (ho' : Octets cs) (hr' : Holds w w.heap.size .u8 A' cs) (hL : LaidS w) :
    Calls Tryd.prog 7 #[.agg #[.int .i64 S, .int .i64 B, .int .i64 sl], .int .u8 i, .int .i64 k, .slice A bs.length c, .slice A' cs.length c'] w fun e w' => e = .returned (.bool true) ∧ Below w.heap.size w w' := by
  have hi := bounds_u8 hi
  have hk := bounds_i64 hk
  have GA := Lib.hid Im.awake_any
  have B0 : Below w.heap.size w (w.alloc (.cells #[.int .i64 S, .int .i64 B, .int .i64 sl] 61)) := (Below.refl _ _).alloc (Nat.le_refl _) _
  have X0 := Block.new w 61 #[.int .i64 S, .int .i64 B, .int .i64 sl]
  have GM := Lib.hid (fun W => small_any S B sl W)
  by_cases hin : smallB S B sl = true ∧ (bs.length : Int) ≤ 1000 ∧ (cs.length : Int) ≤ 1000
  case neg =>
    have hd : smallB S B sl = false ∨ (smallB S B sl = true ∧ (decide ((1000 : Int) < (bs.length : Int)) = true ∨ (decide ((1000 : Int) < (bs.length : Int)) = false ∧ decide ((1000 : Int) < (cs.length : Int)) = true))) := by
      cases hs : smallB S B sl with
      | false => exact Or.inl rfl
      | true =>
        rw [hs] at hin
        simp only [decide_eq_true_eq, decide_eq_false_iff_not]
        simp only [true_and] at hin
        refine Or.inr ⟨trivial, ?_⟩
        omega
    clear hin
    rcases hd with h1 | ⟨h1, h2 | ⟨h2, h3⟩⟩
    all_goals
      rw [h1] at GM
      clear h1
      go_enter Tryd.func7, Tryd.ntmps7
      go_wp2_with (first
        | (go_at_call 24; (with_reducible refine (GM.out _).mono ?_); rintro e w1 ⟨rfl, hb1⟩; have B1 := B0.trans (hb1.mono B0.size))
        | (go_at_call 26; (with_reducible refine (GA.out _).mono ?_); rintro e w5 ⟨rfl, hb5⟩))
      go_ret
      exact ⟨rfl, B1.trans (hb5.mono B1.size)⟩
  case pos =>
    obtain ⟨hsm, hbl, hcl⟩ := hin
    rw [hsm] at GM
    have hmay : Prt.mayB S B sl = true := by
      unfold smallB at hsm
      rw [Bool.and_eq_true] at hsm
      exact hsm.1
    have d1 : decide ((1000 : Int) < (bs.length : Int)) = false := decide_eq_false (by omega)
    have d2 : decide ((1000 : Int) < (cs.length : Int)) = false := decide_eq_false (by omega)
    obtain ⟨q1, q2, q3, q4, q5⟩ := may_q hmay
    obtain ⟨hS, hB, hs⟩ := Prt.may_facts hmay
    obtain ⟨N, rfl⟩ : ∃ N : Nat, S = N := ⟨S.toNat, by omega⟩
    obtain ⟨M, hM⟩ : ∃ M : Nat, allV N B sl = M := ⟨(allV N B sl).toNat, by unfold allV; omega⟩
    have hMb : 1 ≤ M ∧ M ≤ 1048576 := by unfold allV at hM; omega
    have GL := Lib.hid (fun W => Prt.rlayout_any N B sl (B / N) W hS hB hs rfl)
    unfold Prt.mapV at GL
    have hM' : 2 + B / (N : Int) + sl * (B / (N : Int)) + sl * (B / (N : Int)) = (M : Int) := hM
    rw [hM'] at GL
    have GN := Lib.hid (fun W => new_any (fun _ => True) N M W (by omega) (by omega) (by omega) (by omega))
    have hlay : LayOk N B sl (Dv.new N M) := ⟨hmay, rfl, by rw [hM]; exact Int.le_refl _⟩
    have hall : AllOn (Dv.new N M) N M := AllOn.new (by omega) (by omega) (by omega) (by omega)
    have HOB : Hid (opensB (Dv.new N M) N B sl = true) := Lib.hid (by
      unfold opensB
      rw [hmay, hM]
      show (true && decide ((N : Int) = (N : Int)) && decide ((M : Int) ≤ (M : Int))) = true
      simp)
    have GI := Lib.hid (fun (a mk mw : Nat) (W : World) (h : DvAt W (fun _ => True) a mk mw (Dv.new N M)) => iopen_any (fun _ => True) a mk mw (Dv.new N M) N B sl W h)
    have hf3 := fun w => Prt.field3 (.int .i64 0) (.int .i64 1) (.int .i64 1) (.int .i64 1) (.int .i64 2) (.int .i64 (B / N)) (.int .i64 (2 + B / N)) (.int .i64 (sl * (B / N))) (.int .i64 (2 + B / N + sl * (B / N))) (.int .i64 (sl * (B / N))) (.int .i64 M) w
    have HLAY := Lib.hid hlay
    have HALL := Lib.hid hall
    have hoff : (Dv.new N M).offs = 0 ∧ (Dv.new N M).wr = 0 := ⟨rfl, rfl⟩
    generalize Dv.new N M = s0 at *
    have hcap := hlay.facts
    clear hsm hM hM' hlay hall hmay q1 q2 q3 q4 q5
    generalize B / (N : Int) = q at GL hf3
    generalize sl * q = p at GL hf3
    go_enter Tryd.func7, Tryd.ntmps7
    go_upto_region 3 with (go_at_call 24; (with_reducible refine (GM.out _).mono ?_); rintro e w1 ⟨rfl, hb1⟩; have B1 := B0.trans (hb1.mono B0.size); have X1 := X0.below hb1 X0.lt)
    have x0 := X1.cell 0
    have x1 := X1.cell 1
    have x2 := X1.cell 2
    simp at x0 x1 x2
    have B1d := below_draws B1 1
    have X1d := Block.drewN X1 1
    have y0 : w1.drew.cell? ⟨w.heap.size, 0, none⟩ = some (.int .i64 N) := X1d.cell 0
    have y1 : w1.drew.cell? ⟨w.heap.size, 1, none⟩ = some (.int .i64 B) := X1d.cell 1
    have y2 : w1.drew.cell? ⟨w.heap.size, 2, none⟩ = some (.int .i64 sl) := X1d.cell 2
    go_region_held3 (fun W' => W'.cell? ⟨w.heap.size, 0, none⟩ = some (.int .i64 (N : Int)) ∧ W'.cell? ⟨w.heap.size, 1, none⟩ = some (.int .i64 B) ∧ W'.cell? ⟨w.heap.size, 2, none⟩ = some (.int .i64 sl))
      (first | exact ⟨x0, x1, x2⟩ | exact ⟨y0, y1, y2⟩ | exact ⟨X3.cell 0, X3.cell 1, X3.cell 2⟩ | exact ⟨X2.cell 0, X2.cell 1, X2.cell 2⟩)
      (first
        | (go_at_call 27; refine (GL.out _).mono ?_; rintro e w2 ⟨rfl, hb2⟩; have X2 := X1d.below hb2 X1d.lt; have B2 := B1d.trans (hb2.mono B1d.size))
        | (go_at_call 10; refine (GN.out _).mono ?_; rintro e w3 ⟨a, mk, mw, rfl, D3, hb3, ga, gk, gw⟩; have X3 := X2.below hb3 X2.lt; have B3 := B2.trans (hb3.mono B2.size)))
    obtain ⟨hN, hB', hs', hdd, hq, h0, h1, h2, h3⟩ := hcap
    obtain ⟨C, hC⟩ : ∃ C : Nat, B * sl = C := ⟨(B * sl).toNat, by omega⟩
    have hCt : (B * sl).toNat = C := by rw [hC, Int.toNat_natCast]
    have hC2 : C ≤ 16777216 := by omega
    have GC : Hid (∀ W x a p0 p1 p2, ImAt W x a N B sl p0 p1 p2 → Calls Tryd.prog 29 #[.pointer (some ⟨x, 0, none⟩)] W fun e w' => e = .returned (.int .i64 (C : Int)) ∧ ∃ n, w' = W.drewN n) := Lib.hid (fun W x a p0 p1 p2 h => by
      have := cap_any x a N B sl p0 p1 p2 W h ⟨h0, h1⟩
      rwa [hC] at this)
    have GS : Hid (∀ W x a mk mw p0 p1 p2 (s2 : Dv) (j : Int), LayOk N B sl s2 → 0 ≤ j → j ≤ 255 → Below w.heap.size w W → ImAt W x a N B sl p0 p1 p2 → DvAt W (fun _ => True) a mk mw s2 → Calls Tryd.prog 33 #[.pointer (some ⟨x, 0, none⟩), .int .u8 j, .int .i64 (C : Int)] W fun e w' => ∃ r, ReadsP s2 (slotF N B sl j) 0 C r ∧ e = .returned (.tuple #[arrV .u8 (sumOf r), .int .i64 r.2]) ∧ Below W.heap.size W w') := Lib.hid (fun W x a mk mw p0 p1 p2 s2 j hl hj0 hj1 hb hi hd => isum_yes (fun _ => True) x a mk mw p0 p1 p2 N B sl j C s2 W hi hd hl ⟨hj0, hj1⟩ (by rw [hC]; exact Int.le_refl _) (hL.below hb))
    have HR := Lib.hid hr
    have HR' := Lib.hid hr'
    have HOT : Hid (∀ a W e w', GOpen a s0 N B sl W e w' → Below W.heap.size W w' ∧ ∃ x p0 p1 p2, W.heap.size ≤ x ∧ e = .returned (.tuple #[.pointer (some ⟨x, 0, none⟩), .int .i64 0]) ∧ ImAt w' x a N B sl p0 p1 p2) := Lib.hid (fun a W e w' ⟨g1, g2⟩ => by
      rw [if_pos HOB.out] at g2
      obtain ⟨x, p0, p1, p2, g3, _, _, _, g4, g5⟩ := g2
      exact ⟨g1, x, p0, p1, p2, g3, g4, g5⟩)
    have hij : ∃ j : Int, ((i = 0 ∧ j ≠ 0) ∨ (i ≠ 0 ∧ j = 0)) ∧ 0 ≤ j ∧ j ≤ 255 ∧ (((i != 0) = true ∧ j = 0) ∨ ((i != 0) = false ∧ j = 1)) := by
      by_cases h : i = 0
      · exact ⟨1, Or.inl ⟨h, by decide⟩, by omega, by omega, Or.inr ⟨by simp [h], rfl⟩⟩
      · exact ⟨0, Or.inr ⟨h, rfl⟩, by omega, by omega, Or.inl ⟨by simpa using h, rfl⟩⟩
    obtain ⟨j, hij, hj0, hj1, hji⟩ := hij
    have HIJ : Hid (∀ r1 r2 : Int × Dv, (0 ≤ k ∧ k < sl) → (bs.length : Int) ≤ B → (cs.length : Int) ≤ B → PWrite s0 (slotF N B sl i) C (k * B) bs r1 → PWrite r1.2 2 B.toNat 0 cs r2 →
        (∀ r r', ReadsP s0 (slotF N B sl j) 0 C r → ReadsP r2.2 (slotF N B sl j) 0 C r' → r = r' ∧ r.2 = 0) ∧ (∀ r, PRead r2.2 (slotF N B sl i) C (k * B) bs.length r → r = (bs, 0)) ∧ (∀ r, PRead r2.2 2 B.toNat 0 cs.length r → r = (cs, 0))) := Lib.hid (fun r1 r2 u1 u2 u3 u4 u5 => by
      have := apart_of HLAY.out HALL.out hij u1 u2 u3 (by rw [hCt]; exact u4) u5
      rwa [hCt] at this)
    have hz2 := B2.size
    clear x0 x1 x2 y0 y1 y2 X1 X1d B1 B1d B2 X2 hb1 hb2 hb3 GL GN hf3 HOB hij GM d1 d2 hS hB hs hL hr hr' h2 h3 hdd hq
    go_upto_region 8 with (first
      | (go_at_call 28; refine (GI.out a mk mw _ D3).mono ?_; intro e w4 h4; obtain ⟨hb4, x, p0, p1, p2, hx, rfl, I4⟩ := HOT.out _ _ _ _ h4; clear h4; have D4 := D3.below hb4; have X4 := X3.below hb4 X3.lt; have B4 := B3.trans (hb4.mono B3.size))
      | fail)
    have hgi : ∀ W, Below w.heap.size w W → Holds W W.heap.size .u8 A bs ∧ Holds W W.heap.size .u8 A' cs := fun W hb => ⟨(HR.out.below hb).more hb.size, (HR'.out.below hb).more hb.size⟩
    have HH := Lib.hid hgi
    clear hgi hx
    -- the sum of the other slot
    have GS4 := Lib.hid (fun n => GS.out (w4.drewN n) x a mk mw p0 p1 p2 s0 j HLAY.out hj0 hj1 (below_draws B4 n) (I4.below (below_draws (Below.refl _ _) n)) (D4.below (below_draws (Below.refl _ _) n)))
    have GC4 := Lib.hid (GC.out w4 x a p0 p1 p2 I4)
    have HIB : Hid (∀ n w5, Below (w4.drewN n).heap.size (w4.drewN n) w5 → Below w4.heap.size w4 w5) := Lib.hid (fun n w5 h => (below_draws (Below.refl _ _) n).trans h)
    rcases hji with ⟨ei, rfl⟩ | ⟨ei, rfl⟩
    all_goals
      go_upto_region 11 with (first
        | (go_at_call 29; (with_reducible refine GC4.out.mono ?_); rintro e w' ⟨rfl, n4, rfl⟩)
        | (go_at_call 33; (with_reducible refine (GS4.out n4).mono ?_); rintro e w5 ⟨r5, hr5, rfl, hb5⟩; have hb5 := HIB.out _ _ hb5; have D5 := D4.below hb5; have I5 := I4.below hb5; have X5 := X4.below hb5 X4.lt; have B5 := B4.trans (hb5.mono B4.size); have hl5 := sumOf_length r5; have HL5 := Lib.hid hl5; clear hl5)
        | (have _t := D5; refine wpList_store_arr rfl _ _ _ rfl (ys := sumOf r5) (res_new w5 48) rfl rfl (by rw [HL5.out]; rfl) (by rw [HL5.out]; kernel_rfl) ?_; clear _t; intro w6 r6 g6))
      have hb6 : Below w5.heap.size w5 w6 := (blast w5 _).trans (below_of_grown g6 (blast w5 _).size fun b hb => by injection hb with hb; omega)
      have D6 := D5.below hb6
      have I6 := I5.below hb6
      have X6 := X5.below hb6 X5.lt
      have B6 := B5.trans (hb6.mono B5.size)
      obtain ⟨Q, hQ⟩ : ∃ Q, w5.heap.size = Q := ⟨_, rfl⟩
      rw [hQ] at r6
      try rw [hQ]
      clear hQ g6 hb6 D5 I5 X5 B5 hb5 D4 I4 X4 B4 hb4 GS4 GC4 HIB ei D3 X3 B3
      have GP := put_any (fun _ => True) x a mk mw p0 p1 p2 N B sl i k A bs c s0 w6 I6 D6 HLAY.out (fun _ _ => trivial) hi hk (by omega) hl hm ho (HH.out w6 B6).1 (by omega) (by omega)
      by_cases hkr : 0 ≤ k ∧ k < sl
      case neg =>
        have GP1 := Lib.hid (GP.mono fun e w' h => (show e = .returned (.int .i64 5) ∧ w' = w6 from by
          rcases h with ⟨_, h1, h2⟩ | ⟨h, _⟩ | ⟨h, _⟩
          · exact ⟨h1, h2⟩
          · exact absurd h hkr
          · exact absurd h hkr))
        clear GP hkr HIJ D6 I6 X6 r6
        go_wp2_with (first
          | (go_at_call 34; (with_reducible refine GP1.out.mono ?_); rintro e w' ⟨rfl, rfl⟩)
          | (go_at_call 26; (with_reducible refine (GA.out _).mono ?_); rintro e w9 ⟨rfl, hb9⟩))
        go_ret
        exact ⟨rfl, B6.trans (hb9.mono B6.size)⟩
      case pos =>
        by_cases hbb : 1 ≤ bs.length ∧ (bs.length : Int) ≤ B
        case neg =>
          have GP1 := Lib.hid (GP.mono fun e w' h => (show e = .returned (.int .i64 3) ∧ w' = w6 from by
            rcases h with ⟨h, _⟩ | ⟨_, _, h1, h2⟩ | ⟨_, h, _⟩
            · exact absurd hkr h
            · exact ⟨h1, h2⟩
            · exact absurd h hbb))
          clear GP hkr hbb HIJ D6 I6 X6 r6
          go_wp2_with (first
            | (go_at_call 34; (with_reducible refine GP1.out.mono ?_); rintro e w' ⟨rfl, rfl⟩)
            | (go_at_call 26; (with_reducible refine (GA.out _).mono ?_); rintro e w9 ⟨rfl, hb9⟩))
          go_ret
          exact ⟨rfl, B6.trans (hb9.mono B6.size)⟩
        case pos =>
          have GP1 : Hid (Calls Tryd.prog 34 #[.pointer (some ⟨x, 0, none⟩), .int .u8 i, .int .i64 k, .slice A bs.length c] w6 fun e w' => e = .returned (.int .i64 0) ∧ ∃ q1 : Int × Dv, PWrite s0 (slotF N B sl i) C (k * B) bs q1 ∧ AllOn q1.2 N M ∧ DvAt w' (fun _ => True) a mk mw q1.2 ∧ TurnsIn (DSet a mk mw) w6 w' ∧ Near s0 q1.2) := Lib.hid (GP.mono fun e w' h => by
            rcases h with ⟨h, _⟩ | ⟨_, h, _⟩ | ⟨_, _, q1, h1, h2, h3, h4⟩
            · exact absurd hkr h
            · exact absurd hbb h
            · obtain ⟨z1, on1⟩ := put_ok HLAY.out HALL.out hkr hbb.2 h1
              rw [z1] at h2
              rw [hCt] at h1
              exact ⟨h2, q1, h1, on1, h3, h4, pwrite_near (by have := HALL.out.z; omega) (by omega) h1⟩)
          clear GP
          have HDS : Hid (∀ b, b < w.heap.size → ¬ DSet a mk mw b) := Lib.hid (fun b hb hx => by
            rcases hx with rfl | rfl | rfl <;> omega)
          by_cases hcb : 1 ≤ cs.length ∧ (cs.length : Int) ≤ B
          case neg =>
            have GK : Hid (∀ W q1, AllOn q1 N M → Near s0 q1 → ImAt W x a N B sl p0 p1 p2 → DvAt W (fun _ => True) a mk mw q1 → Below w.heap.size w W → Calls Tryd.prog 35 #[.pointer (some ⟨x, 0, none⟩), .slice A' cs.length c'] W fun e w' => e = .returned (.int .i64 3) ∧ w' = W) := Lib.hid (fun W q1 on nr hi hd hb => by
              have nr2 := nr
              obtain ⟨n1, n2, _, _⟩ := nr2
              refine (keep_any (fun _ => True) x a mk mw p0 p1 p2 N B sl A' cs c' q1 W hi hd (HLAY.out.near nr) (fun _ _ => trivial) (by omega) hl' hm' ho' (HH.out W hb).2 (by omega) (by omega)).mono fun e w' h => ?_
              rcases h with ⟨_, h1, h2⟩ | ⟨h, _⟩
              · exact ⟨h1, h2⟩
              · exact absurd h hcb)
            clear hkr hbb hcb HIJ
            go_wp2_with (first
            | (go_at_call 34; (with_reducible refine GP1.out.mono ?_); rintro e w7 ⟨rfl, q1, hq1, on1, D7, T7, nr1⟩; have I7 := I6.turn D6 T7; have X7 : Block w7 w.heap.size 61 #[.int .i64 N, .int .i64 B, .int .i64 sl] := Sec.Block.dset D6 T7 X6 (by decide); have B7 : Below w.heap.size w w7 := B6.trans (T7.toBelow B6.size HDS.out); have r7 := Block.out r6 T7 (D6.not_cells r6 (by decide)))
            | (have _t := D7; go_at_call 35; (with_reducible refine (GK.out _ q1.2 on1 nr1 I7 D7 B7).mono ?_); clear _t; rintro e w' ⟨rfl, rfl⟩)
            | (go_at_call 26; (with_reducible refine (GA.out _).mono ?_); rintro e w9 ⟨rfl, hb9⟩))
            go_ret
            exact ⟨rfl, B7.trans (hb9.mono B7.size)⟩
          case pos =>
            have GK : Hid (∀ W q1, AllOn q1 N M → Near s0 q1 → ImAt W x a N B sl p0 p1 p2 → DvAt W (fun _ => True) a mk mw q1 → Below w.heap.size w W → Calls Tryd.prog 35 #[.pointer (some ⟨x, 0, none⟩), .slice A' cs.length c'] W fun e w' => e = .returned (.int .i64 0) ∧ ∃ q2 : Int × Dv, PWrite q1 2 B.toNat 0 cs q2 ∧ LayOk N B sl q2.2 ∧ DvAt w' (fun _ => True) a mk mw q2.2 ∧ TurnsIn (DSet a mk mw) W w') := Lib.hid (fun W q1 on nr hi hd hb => by
              have nr2 := nr
              obtain ⟨n1, n2, _, _⟩ := nr2
              refine (keep_any (fun _ => True) x a mk mw p0 p1 p2 N B sl A' cs c' q1 W hi hd (HLAY.out.near nr) (fun _ _ => trivial) (by omega) hl' hm' ho' (HH.out W hb).2 (by omega) (by omega)).mono fun e w' h => ?_
              rcases h with ⟨h, _⟩ | ⟨_, q2, h1, h2, h3, h4⟩
              · exact absurd hcb h
              · obtain ⟨z2, on2⟩ := keep_ok (HLAY.out.near nr) on hcb.2 h1
                rw [z2] at h2
                exact ⟨h2, q2, h1, (HLAY.out.near nr).near (pwrite_near (by have := on.z; omega) (by omega) h1), h3, h4⟩)
            have HKR := Lib.hid hkr
            have HBB := Lib.hid hbb
            have HCB := Lib.hid hcb
            clear hkr hbb hcb
            go_upto_region 13 with (first
            | (go_at_call 34; (with_reducible refine GP1.out.mono ?_); rintro e w7 ⟨rfl, q1, hq1, on1, D7, T7, nr1⟩; have I7 := I6.turn D6 T7; have X7 : Block w7 w.heap.size 61 #[.int .i64 N, .int .i64 B, .int .i64 sl] := Sec.Block.dset D6 T7 X6 (by decide); have B7 : Below w.heap.size w w7 := B6.trans (T7.toBelow B6.size HDS.out); have r7 := Block.out r6 T7 (D6.not_cells r6 (by decide)))
            | (have _t := D7; go_at_call 35; (with_reducible refine (GK.out _ q1.2 on1 nr1 I7 D7 B7).mono ?_); clear _t; rintro e w8 ⟨rfl, q2, hq2, lay2, D8, T8⟩; have I8 := I7.turn D7 T8; have X8 : Block w8 w.heap.size 61 #[.int .i64 N, .int .i64 B, .int .i64 sl] := Sec.Block.dset D7 T8 X7 (by decide); have B8 : Below w.heap.size w w8 := B7.trans (T8.toBelow B7.size HDS.out); have r8 := Block.out r7 T8 (D7.not_cells r7 (by decide))))
            obtain ⟨AP1, AP2, AP3⟩ := HIJ.out q1 q2 HKR.out HBB.out.2 HCB.out.2 hq1 hq2
            have hAS : ∀ r9 : List Int × Int, ReadsP q2.2 (slotF N B sl _) 0 C r9 → r9 = r5 ∧ r5.2 = 0 := fun r9 h9 => ⟨(AP1 r5 r9 hr5 h9).1.symm, (AP1 r5 r9 hr5 h9).2⟩
            have HAS := Lib.hid hAS
            clear hAS AP1 hr5
            have hkb : 0 ≤ k * B ∧ k * B ≤ C ∧ 0 ≤ (bs.length : Int) ∧ (bs.length : Int) ≤ C - k * B := by
              obtain ⟨u0, u1⟩ := HKR.out
              obtain ⟨u2, u3⟩ := HBB.out
              have t1 : (k + 1) * B ≤ sl * B := Int.mul_le_mul_of_nonneg_right (by omega) (by omega)
              have t2 : 0 ≤ k * B := Int.mul_nonneg u0 (by omega)
              rw [Int.add_mul, Int.one_mul, Int.mul_comm sl B, hC] at t1
              omega
            have GV : Hid (∀ W, ImAt W x a N B sl p0 p1 p2 → Calls Tryd.prog 36 #[.pointer (some ⟨x, 0, none⟩), .int .u8 i, .int .i64 (C : Int)] W fun e w' => ∃ v, e = .returned (.pointer (some ⟨v, 0, none⟩)) ∧ W.heap.size ≤ v ∧ ViewAt w' v (slotP p0 p1 i) (C : Int) ∧ Below W.heap.size W w') := Lib.hid (fun W h => by
              have := view_any x a p0 p1 p2 N B sl i C _ W h lay2 hi
              rwa [hC, show min (max (C : Int) 0) (C : Int) = C by omega] at this)
            have GR : Hid (∀ W v, ViewAt W v (slotP p0 p1 i) (C : Int) → ImAt W x a N B sl p0 p1 p2 → DvAt W (fun _ => True) a mk mw q2.2 → Calls Tryd.prog 37 #[.pointer (some ⟨v, 0, none⟩), .int .i64 (IntKind.i64.wrap (k * B)), .int .i64 (bs.length : Int)] W fun e w' => GivesB bs 0 W e w') := Lib.hid (fun W v hv h hd => by
              rw [show IntKind.i64.wrap (k * B) = k * B by rw [IntKind.wrap_i64]; omega]
              have hli := lay2.lies i
              rw [hCt] at hli
              refine (range_any (fun _ => True) v (slotP p0 p1 i) a mk mw _ _ C C (k * B) bs.length _ W hv (h.slot i) hd hli (by omega) (by omega)).mono fun e w' h => ?_
              rcases h with ⟨h, _⟩ | ⟨_, r, h1, h2⟩
              · exact absurd hkb h
              · rw [AP2 r h1] at h2
                exact h2)
            have GK2 : Hid (∀ W, ImAt W x a N B sl p0 p1 p2 → DvAt W (fun _ => True) a mk mw q2.2 → Calls Tryd.prog 38 #[.pointer (some ⟨x, 0, none⟩), .int .i64 (cs.length : Int)] W fun e w' => GivesB cs 0 W e w') := Lib.hid (fun W h hd => by
              refine (kept_any (fun _ => True) x a mk mw p0 p1 p2 N B sl cs.length _ W h hd lay2).mono fun e w' h => ?_
              obtain ⟨r, h1, h2⟩ := h
              rw [AP3 r h1] at h2
              exact h2)
            have HKB := Lib.hid hkb
            have hkb1 : -9223372036854775808 ≤ k * B ∧ k * B ≤ 9223372036854775807 := by omega
            clear hkb AP2 AP3 hq1 hq2
            have GS8 := Lib.hid (fun n => GS.out (w8.drewN n) x a mk mw p0 p1 p2 q2.2 _ lay2 hj0 hj1 (below_draws B8 n) (I8.below (below_draws (Below.refl _ _) n)) (D8.below (below_draws (Below.refl _ _) n)))
            have GC8 := Lib.hid (GC.out w8 x a p0 p1 p2 I8)
            have HIB : Hid (∀ n w9, Below (w8.drewN n).heap.size (w8.drewN n) w9 → Below w8.heap.size w8 w9) := Lib.hid (fun n w9 h => (below_draws (Below.refl _ _) n).trans h)
            clear D7 I7 X7 B7 r7 T8 T7 r6 D6 I6 X6 B6 GK GP1
            go_upto_region 14 with (first
              | (go_at_call 29; (with_reducible refine GC8.out.mono ?_); rintro e w' ⟨rfl, n8, rfl⟩)
              | (go_at_call 33; (with_reducible refine (GS8.out n8).mono ?_); rintro e w9 ⟨rr, hr9, rfl, hb9⟩; obtain ⟨e9, z9⟩ := HAS.out rr hr9; subst e9; have hb9 := HIB.out _ _ hb9; have D9 := D8.below hb9; have I9 := I8.below hb9; have X9 := X8.below hb9 X8.lt; have r9 := r8.below hb9 r8.lt; have B9 := B8.trans (hb9.mono B8.size))
              | (have _t := D9; refine wpList_store_arr rfl _ _ _ rfl (ys := sumOf _) (res_new w9 48) rfl rfl (by rw [HL5.out]; rfl) (by rw [HL5.out]; kernel_rfl) ?_; clear _t; intro w10 r10 g10))
            clear GC8 GS8 HIB HAS D8 I8 X8 B8 r8 hb9 hr9
            obtain ⟨Q9, hQ9⟩ : ∃ Q9, w9.heap.size = Q9 := ⟨_, rfl⟩
            have hb10 : Below w9.heap.size w9 w10 := (blast w9 _).trans (below_of_grown g10 (blast w9 _).size fun b hb => by injection hb with hb; omega)
            have D10 := D9.below hb10
            have I10 := I9.below hb10
            have X10 := X9.below hb10 X9.lt
            have q10 := r9.below hb10 r9.lt
            have B10 := B9.trans (hb10.mono B9.size)
            rw [hQ9] at r10
            try rw [hQ9]
            clear hQ9 g10 hb10 D9 I9 X9 r9 B9
            have z0 : w10.cell? ⟨w.heap.size, 1, none⟩ = some (.int .i64 B) := X10.cell 1
            have z1 : w10.drew.cell? ⟨w.heap.size, 1, none⟩ = some (.int .i64 B) := (Block.drewN X10 1).cell 1
            have GC10 := Lib.hid (GC.out (w10.drewN 1) x a p0 p1 p2 (I10.below (below_draws (Below.refl _ _) 1)))
            have HIE := Lib.hid (fun n => I10.below (below_draws (Below.refl _ _) (1 + n)))
            have HDE := Lib.hid (fun n => D10.below (below_draws (Below.refl _ _) (1 + n)))
            have HXE := Lib.hid (fun n => Block.drewN X10 (1 + n))
            have HQE := Lib.hid (fun n => Block.drewN q10 (1 + n))
            have HRE := Lib.hid (fun n => Block.drewN r10 (1 + n))
            have HBE := Lib.hid (fun n => below_draws B10 (1 + n))
            go_region_held3 (fun W' => W'.cell? ⟨w.heap.size, 1, none⟩ = some (.int .i64 B))
              (first | exact z0 | exact z1 | exact X13.cell 1 | exact X12.cell 1 | exact X11.cell 1)
              (first
                | (go_at_call 29; refine GC10.out.mono ?_; rintro e w' ⟨rfl, n9, rfl⟩; have I11 := HIE.out n9; have D11 := HDE.out n9; have X11 := HXE.out n9; have q11 := HQE.out n9; have r11 := HRE.out n9; have B11 := HBE.out n9)
                | (go_at_call 36; (with_reducible refine (GV.out _ I11).mono ?_); rintro e w12 ⟨v, rfl, hv, V12, hb12⟩; have I12 := I11.below hb12; have D12 := D11.below hb12; have X12 := X11.below hb12 X11.lt; have q12 := q11.below hb12 q11.lt; have r12 := r11.below hb12 r11.lt; have B12 := B11.trans (hb12.mono B11.size))
                | (go_at_call 37; (with_reducible refine (GR.out _ v V12 I12 D12).mono ?_); rintro e w13 ⟨v13, rfl, o13, hb13⟩; have I13 := I12.below hb13; have D13 := D12.below hb13; have X13 := X12.below hb13 X12.lt; have q13 := q12.below hb13 q12.lt; have r13 := r12.below hb13 r12.lt; have B13 := B12.trans (hb13.mono B12.size)))
            clear GV GR I12 D12 X12 q12 r12 B12 I11 D11 X11 q11 r11 B11 I10 D10 X10 q10 r10 B10 V12 hb12 hb13 HIE HDE HXE HQE HRE HBE GC10 z0 z1
            obtain ⟨A13, c13, rfl, -, -, hh13⟩ := o13.opened
            have HH13 := Lib.hid hh13
            clear hh13 o13
            have GK3 := Lib.hid (GK2.out w13 I13 D13)
            go_upto_region 16 with (go_at_call 38; (with_reducible refine GK3.out.mono ?_); rintro e w14 ⟨v14, rfl, o14, hb14⟩; have q14 := q13.below hb14 q13.lt; have r14 := r13.below hb14 r13.lt; have B14 := B13.trans (hb14.mono B13.size))
            obtain ⟨A14, c14, rfl, -, -, hh14⟩ := o14.opened
            have kc1 := conv_bytes (P := Tryd.prog) Tryd.underlying22 Tryd.underlying5 Tryd.underlying9 w14 A13 bs c13 _ (HH13.out.below hb14)
            have kc2 := conv_bytes (P := Tryd.prog) Tryd.underlying22 Tryd.underlying5 Tryd.underlying9 w14 A bs c _ (HH.out w14 B14).1
            have kc3 := conv_bytes (P := Tryd.prog) Tryd.underlying22 Tryd.underlying5 Tryd.underlying9 w14 A14 cs c14 _ hh14
            have kc4 := conv_bytes (P := Tryd.prog) Tryd.underlying22 Tryd.underlying5 Tryd.underlying9 w14 A' cs c' _ (HH.out w14 B14).2
            generalize strOfNums bs = S1 at *
            generalize strOfNums cs = S2 at *
            clear GK3 GK2 hb14 hh14 o14 HH13 HH
            generalize sumOf rr = ys at *
            go_wp2_with (first
              | (have _t := q14; refine load_arrG (by rfl) _ _ rfl (show Arr w14 Q 48 .u8 ys from q14) rfl Tryd.underlying48 (by rfl) (by rw [HL5.out]; kernel_rfl) ?_; clear _t)
              | (have _t := r14; refine load_arrG (by rfl) _ _ rfl (show Arr w14 Q9 48 .u8 ys from r14) rfl Tryd.underlying48 (by rfl) (by rw [HL5.out]; kernel_rfl) ?_; clear _t)
              | (refine eql_self (by rfl) _ _ _ rfl (ys := ys) HL5.out rfl rfl ?_)
              | (go_at_call 26; (with_reducible refine (GA.out _).mono ?_); rintro e w15 ⟨rfl, hb15⟩))
            go_ret
            exact ⟨rfl, B14.trans (hb15.mono B14.size)⟩
end Go.Proofs.YtpnodocjpedcmaaDoor.ImageApart
