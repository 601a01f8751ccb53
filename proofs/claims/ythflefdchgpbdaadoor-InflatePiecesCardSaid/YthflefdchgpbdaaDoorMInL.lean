/-
  Layer 13, inflate: what a block begins with: the program's contract. Conditions: the table of turns holds what the program's text lays; and as each theorem names.
-/
import Derived.Test.YthflefdchgpbdaaDoorMInK
namespace Go.Proofs.YthflefdchgpbdaaDoor.Inf
open Go.ChangeShapes Go.WideShapes Go.ChangeAt Go.RowKit Go.Proofs.YthflefdchgpbdaaDoor.Kit Go.Proofs.YthflefdchgpbdaaDoor.Bits Go.Proofs.YthflefdchgpbdaaDoor.Huf Go.Proofs.YthflefdchgpbdaaDoor.Df

theorem ofInt_64 (a : Nat) (ha : a < 18446744073709551616) : (BitVec.ofInt 64 (a : Int)).toNat = a := by
  rw [BitVec.ofInt_natCast, BitVec.toNat_ofNat]; exact Nat.mod_eq_of_lt (by omega)
/-- Sixteen bits turned. -/
theorem not16 (x : Nat) (h : x < 65536) : bits BinOp.xor IntKind.i64 (x : Int) 65535 = ((65535 - x : Nat) : Int) := by
  have e : x ^^^ 65535 = 65535 - x := by
    apply Nat.eq_of_testBit_eq
    intro i
    have h1 := Nat.testBit_two_pow_sub_succ (n := 16) (x := x) (by simpa using h) i
    rw [show 2 ^ 16 - (x + 1) = 65535 - x by omega] at h1
    have h2 := Nat.testBit_two_pow_sub_one 16 i
    rw [show (2 ^ 16 - 1 : Nat) = 65535 by decide] at h2
    rw [h1, Nat.testBit_xor, h2]
    by_cases hi : i < 16
    · simp [hi]
    · have : x.testBit i = false := Nat.testBit_lt_two_pow (Nat.lt_of_lt_of_le h (by rw [show (65536 : Nat) = 2 ^ 16 by decide]; exact Nat.pow_le_pow_right (by omega) (by omega)))
      simp [hi, this]
  show IntKind.i64.wrap ((BitVec.ofInt 64 (x : Int) ^^^ BitVec.ofInt 64 ((65535 : Nat) : Int)).toNat : Int) = _
  rw [BitVec.toNat_xor, ofInt_64 x (by omega), ofInt_64 65535 (by omega), e, IntKind.wrap_i64]
  omega
theorem open_fin {w : World} {X : Cx} {st : St} {vs vd vs' vd' : Value} {A : Option Addr} {c p : Nat} {u1 u2 : Value} (ph : Int) (last : Bool) (left : Nat) {ls ds : List Int} (h : InAt w X st vs vd A c p u1 u2) (os : Own w X.B 5 .u8 vs' ls) (od : Own w X.B 5 .u8 vd' ds)
    (ap : ∀ b, (Value.slice A st.out.length c).ownBlock = some b → vs'.ownBlock ≠ some b ∧ vd'.ownBlock ≠ some b) (hcp : capV vs' ≤ 288 ∧ capV vd' ≤ 32) {W : World} (hW : W = ((((((w.setCell ⟨X.x, 5, none⟩ (.bool last)).setCell ⟨X.x, 6, none⟩ (.int .i64 (left : Int))).setCell ⟨X.x, 4, none⟩ (.int .u8 ph)).setCell ⟨X.x, 7, none⟩ vs').setCell ⟨X.x, 8, none⟩ vd').setCell ⟨X.gp, 1, none⟩ (.pointer none)).setCell ⟨X.gp, 2, none⟩ (.pointer none)) :
    InAt W X { st with ph := ph, last := last, left := left, ls := ls, ds := ds } vs' vd' A c p (.pointer none) (.pointer none) ∧ TurnsIn (fun b => b = X.x ∨ b = X.gp) w W := by
  have hxp : X.x ≠ X.gp := Block.ne_of h.ia.blk h.hp (by decide)
  have t : TurnsIn (fun b => b = X.x ∨ b = X.gp) w W := by
    rw [hW]
    exact (((((((TurnsIn.refl _ w).setCell (p := ⟨X.x, 5, none⟩) (.inl (.inl rfl)) _).setCell (p := ⟨X.x, 6, none⟩) (.inl (.inl rfl)) _).setCell (p := ⟨X.x, 4, none⟩) (.inl (.inl rfl)) _).setCell (p := ⟨X.x, 7, none⟩) (.inl (.inl rfl)) _).setCell (p := ⟨X.x, 8, none⟩) (.inl (.inl rfl)) _).setCell (p := ⟨X.gp, 1, none⟩) (.inl (.inr rfl)) _).setCell (p := ⟨X.gp, 2, none⟩) (.inl (.inr rfl)) _
  have bx : Block W X.x 40 ((icOf X { st with ph := ph, last := last, left := left, ls := ls, ds := ds } vs' vd').cells (.slice A st.out.length c)) := by
    rw [hW]
    exact ((((((h.ia.blk.set_ 5 (.bool last)).set_ 6 (.int .i64 (left : Int))).set_ 4 (.int .u8 ph)).set_ 7 vs').set_ 8 vd').far (p := ⟨X.gp, 1, none⟩) hxp _).far (p := ⟨X.gp, 2, none⟩) hxp _
  have bp : Block W X.gp 76 #[.pointer (some ⟨X.g, 0, none⟩), .pointer none, .pointer none] := by
    rw [hW]
    have hpx : X.gp ≠ X.x := Ne.symm hxp
    exact ((((((h.hp.far (p := ⟨X.x, 5, none⟩) hpx _).far (p := ⟨X.x, 6, none⟩) hpx _).far (p := ⟨X.x, 4, none⟩) hpx _).far (p := ⟨X.x, 7, none⟩) hpx _).far (p := ⟨X.x, 8, none⟩) hpx _).set_ 1 (.pointer none)).set_ 2 (.pointer none)
  have keep : ∀ {B1 : Nat} {o : Value} {xs : List Int}, Own w B1 5 .u8 o xs → Own W B1 5 .u8 o xs := fun ho => ho.out t (fun b hb he => by
    rcases he with he | he
    · exact ho.ne_block h.ia.blk (by decide) (by rw [hb, he])
    · exact ho.ne_block h.hp (by decide) (by rw [hb, he]))
  refine ⟨⟨⟨bx, keep h.ia.own, h.ia.most⟩, keep os, keep od, bp, ⟨h.rd.blk.out t (fun he => ?_), keep h.rd.own, h.rd.le⟩, fun _ => .inl rfl, fun b hb => ⟨(h.ap b hb).1, (ap b hb).1, (ap b hb).2⟩, hcp⟩, t⟩
  rcases he with he | he
  · exact Block.ne_of h.rd.blk h.ia.blk (by decide) he
  · exact Block.ne_of h.rd.blk h.hp (by decide) he

set_option maxRecDepth 100000 in
set_option maxHeartbeats 12800000 in
theorem open_any (X : Cx) (st : St) (vs vd : Value) (A : Option Addr) (c p : Nat) (u1 u2 : Value) (w : World) (h : InAt w X st vs vd A c p u1 u2) (hs : SOk X.most st p) (h0 : st.ph = 0) (hob : Octets X.bs) (hbl : X.bs.length ≤ 1000000) (hB : X.B ≤ w.heap.size) (hm : X.most ≤ 1000000) (hL : Laid 0 turnsL w) :
    Calls Tryd.prog 31 #[.pointer (some ⟨X.x, 0, none⟩), .pointer (some ⟨X.gp, 0, none⟩)] w (StepTo X st vs vd A c (openG X.most st (bitsOf X.bs) p) w) := by
  have HS := Lib.hid hs
  have HH := Lib.hid h
  have HL := Lib.hid hL
  have HGL := Lib.hid (laid_ne hL (by decide) h.rd)
  have HB := Lib.hid (bitsOf_bit X.bs)
  obtain ⟨r, hr⟩ : ∃ r, openG X.most st (bitsOf X.bs) p = r := ⟨_, rfl⟩
  rw [hr]
  have HR := Lib.hid hr.symm
  unfold openG at HR
  obtain ⟨Q, hQ⟩ : ∃ Q, StepTo X st vs vd A c r w = Q := ⟨_, rfl⟩
  rw [hQ]
  have HQ : Hid (∀ e w', StepTo X st vs vd A c r w e w' → Q e w') := Lib.hid (fun e w' h => by rw [← hQ]; exact h)
  have T0 := Lib.hid (fun (w w' : World) (t : TurnsIn (· = X.g) w w') => t.mono (T := fun b => b = X.g ∨ b = X.x ∨ b = X.gp ∨ (Value.slice A st.out.length c).ownBlock = some b) (fun b _ hb => .inl hb))
  have GN := Lib.hid (fun W => refuse_no 11 W)
  have GY := Lib.hid (fun W => refuse_yes 11 W)
  unfold brokenE at GY
  clear hr hQ h hs hL
  by_cases hq1 : p + 1 ≤ (bitsOf X.bs).length
  · have GM1 := Lib.hid (number_yes 1 w HH.out.hp HH.out.rd hob hbl (by omega) hq1)
    have hv1 := val_lt (bitsOf X.bs) HB.out p 1 hq1
    have HR1 := Lib.hid (HR.out.trans (bindG_ok _ (numG_yes hq1)))
    generalize val (((bitsOf X.bs).drop p).take 1) = a at *
    obtain ⟨la, hla⟩ : ∃ la, decide (a = 1) = la := ⟨_, rfl⟩
    have hlb : (a == 1) = la := hla
    rw [hla] at HR1
    clear hq1 hv1 HR hla
    go_enter Tryd.func31, Tryd.ntmps31
    go_upto_region 1 with (first | (go_at_call 43; refine GM1.out.mono ?_; rintro e w1 ⟨t1, rfl, R1⟩; have I1 := Lib.hid (HH.out.read t1 R1); have T1 := Lib.hid t1; clear t1 R1))
    by_cases hq2 : p + 1 + 2 ≤ (bitsOf X.bs).length
    · have GM2 := Lib.hid (number_yes 2 w1 I1.out.hp I1.out.rd hob hbl (by omega) hq2)
      have hv2 := val_lt (bitsOf X.bs) HB.out (p + 1) 2 hq2
      have HR2 := Lib.hid (HR1.out.trans (bindG_ok _ (numG_yes hq2)))
      generalize val (((bitsOf X.bs).drop (p + 1)).take 2) = k at *
      rw [show (2 : Int) ^ 2 = 4 by decide] at hv2
      clear hq2 HR1 GM1
      rcases (show k = 0 ∨ k = 1 ∨ k = 2 ∨ k = 3 by omega) with rfl | rfl | rfl | rfl
      · clear hv2
        have HR3 : Hid (r = bindG (numG 16) (fun n => bindG (numG 16) fun m => bindG (refG (decide (n + m ≠ 65535)) 11) fun _ => bindG (refG (decide (X.most < st.out.length + n)) 12) fun _ => pureG { st with ph := 1, last := la, left := n.toNat, ls := [], ds := [] }) (bitsOf X.bs) ((p + 1 + 2 + 7) / 8 * 8)) := Lib.hid (by
          rw [HR2.out, if_pos rfl]
          rfl)
        generalize hP8 : (p + 1 + 2 + 7) / 8 * 8 = P8 at *
        have HP8 := Lib.hid hP8
        clear hP8 HR2
        go_upto_region 5 with (first | (go_at_call 43; refine GM2.out.mono ?_; rintro e w2 ⟨t2, rfl, R2⟩; have I2 := Lib.hid (I1.out.read t2 R2); have T2 := Lib.hid (T1.out.trans t2); clear t2 R2))
        clear GM2
        have y0 : w2.cell? ⟨X.gp, 0, none⟩ = some (.pointer (some ⟨X.g, 0, none⟩)) := I2.out.hp.cell 0
        have GA := ralign_any X.B' X.g X.v X.bs (p + 1 + 2) w2 I2.out.rd hbl
        rw [HP8.out] at GA
        have GAL := Lib.hid GA
        clear GA
        go_upto_region 7 with (first | (go_at_call 34; refine GAL.out.mono ?_; rintro e w3 ⟨rfl, R3, t3⟩; have I3 := Lib.hid (I2.out.read t3 R3); have T3 := Lib.hid (T2.out.trans t3); clear t3 R3))
        clear GAL y0
        by_cases hq3 : P8 + 16 ≤ (bitsOf X.bs).length
        · have GM3 := Lib.hid (number_yes 16 w3 I3.out.hp I3.out.rd hob hbl (by omega) hq3)
          have hv3 := val_lt (bitsOf X.bs) HB.out P8 16 hq3
          have HR4 := Lib.hid (HR3.out.trans (bindG_ok _ (numG_yes hq3)))
          generalize val (((bitsOf X.bs).drop P8).take 16) = n at *
          rw [show (2 : Int) ^ 16 = 65536 by decide] at hv3
          obtain ⟨lf, rfl⟩ := Int.eq_ofNat_of_zero_le hv3.1
          have hx := not16 lf (by omega)
          have hlf : lf < 65536 := by omega
          clear hq3 hv3 HR3
          go_upto_region 8 with (first | (go_at_call 43; refine GM3.out.mono ?_; rintro e w4 ⟨t4, rfl, R4⟩; have I4 := Lib.hid (I3.out.read t4 R4); have T4 := Lib.hid (T3.out.trans t4); clear t4 R4))
          clear GM3
          by_cases hq4 : P8 + 16 + 16 ≤ (bitsOf X.bs).length
          · have GM4 := Lib.hid (number_yes 16 w4 I4.out.hp I4.out.rd hob hbl (by omega) hq4)
            have hv4 := val_lt (bitsOf X.bs) HB.out (P8 + 16) 16 hq4
            have HR5 := Lib.hid (HR4.out.trans (bindG_ok _ (numG_yes hq4)))
            generalize val (((bitsOf X.bs).drop (P8 + 16)).take 16) = m at *
            rw [show (2 : Int) ^ 16 = 65536 by decide] at hv4
            obtain ⟨mm, rfl⟩ := Int.eq_ofNat_of_zero_le hv4.1
            obtain ⟨y, hy⟩ : ∃ y, 65535 - lf = y := ⟨_, rfl⟩
            rw [hy] at hx
            clear hq4 hv4 HR4
            by_cases hmy : mm = y
            · have d1 : (((mm : Nat) : Int) == ((y : Nat) : Int)) = true := by rw [beq_iff_eq]; omega
              have d2 : (mm == y) = true := by rw [beq_iff_eq]; omega
              have d3 : (((mm : Nat) : Int) != ((y : Nat) : Int)) = false := by rw [bne, d1]; rfl
              have HR6 := Lib.hid (HR5.out.trans (show _ = bindG (refG (decide (X.most < st.out.length + (lf : Int))) 12) (fun _ => pureG { st with ph := 1, last := la, left := lf, ls := [], ds := [] }) (bitsOf X.bs) (P8 + 16 + 16) by rw [decide_eq_false (by omega), ref_no_bind, Int.toNat_natCast]))
              have HMY := Lib.hid (And.intro hmy hy)
              clear hmy hy HR5
              go_wp2_with fail
              refine GM4.out.mono ?_
              rintro e w5 ⟨t5, rfl, R5⟩
              have I5 := Lib.hid (I4.out.read t5 R5)
              have T5 := Lib.hid (T4.out.trans t5)
              clear t5 R5 GM4
              go_wp2_with fail
              refine (GN.out _).mono ?_
              rintro e w6 ⟨rfl, hw6⟩
              have hw6' := hw6.symm
              clear hw6
              subst hw6'
              by_cases hful : ((st.out.length + lf : Nat) : Int) ≤ X.most
              · have HRF := Lib.hid (HR6.out.trans (show _ = .ok { st with ph := 1, last := la, left := lf, ls := [], ds := [] } (P8 + 16 + 16) by rw [decide_eq_false (by omega), ref_no_bind]; rfl))
                have HFU := Lib.hid hful
                clear hful HR6
                go_wp2_with fail
                refine (full_yes X.B X.x _ st.out A c lf w5 I5.out.ia (by omega) HFU.out).mono ?_
                rintro e w9 ⟨rfl, t9⟩
                have I9 := Lib.hid (I5.out.quiet t9)
                have T9 := Lib.hid (T0.out _ _ (T5.out.trans (t9.mono fun _ _ h => h.elim)))
                clear t9
                have b0 := I9.out.ia.blk
                have bp0 := I9.out.hp
                have hxp : X.x ≠ X.gp := Block.ne_of b0 bp0 (by decide)
                have hpx : X.gp ≠ X.x := Ne.symm hxp
                have b5 := b0.set_ 5 (.bool la)
                have b6 := b5.set_ 6 (.int .i64 (lf : Int))
                have b4 := b6.set_ 4 (.int .u8 1)
                have b7 := b4.set_ 7 (.slice none 0 0)
                have b8 := b7.set_ 8 (.slice none 0 0)
                have z5 := b0.frozen 5
                have z6 := b5.frozen 6
                have z4 := b6.frozen 4
                have z7 := b4.frozen 7
                have z8 := b7.frozen 8
                have x5 : w9.cell? ⟨X.x, 5, none⟩ = some (.bool st.last) := b0.cell 5
                have x6 : (w9.setCell ⟨X.x, 5, none⟩ (.bool la)).cell? ⟨X.x, 6, none⟩ = some (.int .i64 (st.left : Int)) := b5.cell 6
                have x4 := (b6.cell 4).trans (show _ = some (Value.int .u8 st.ph) from rfl)
                have x7 := (b4.cell 7).trans (show _ = some vs from rfl)
                have x8 := (b7.cell 8).trans (show _ = some vd from rfl)
                have p1 := ((((bp0.far (p := ⟨X.x, 5, none⟩) hpx (.bool la)).far (p := ⟨X.x, 6, none⟩) hpx (.int .i64 (lf : Int))).far (p := ⟨X.x, 4, none⟩) hpx (.int .u8 1)).far (p := ⟨X.x, 7, none⟩) hpx (.slice none 0 0)).far (p := ⟨X.x, 8, none⟩) hpx (.slice none 0 0)
                have p2 := p1.set_ 1 (.pointer none)
                have y1 := (p1.cell 1).trans (show _ = some u1 from rfl)
                have y2 := (p2.cell 2).trans (show _ = some u2 from rfl)
                have f1 := p1.frozen 1
                have f2 := p2.frozen 2
                have FIN := Lib.hid (open_fin 1 la lf I9.out (Own.nil _ _ _ _) (Own.nil _ _ _ _) (fun b hb => ⟨by simp [Value.ownBlock], by simp [Value.ownBlock]⟩) (by simp [capV]) rfl)
                clear b0 bp0 b5 b6 b4 b7 b8 p1 p2
                go_wp2_with fail
                go_end0
                refine HQ.out _ _ ?_
                rw [HRF.out]
                obtain ⟨i10, t10⟩ := FIN.out
                refine ⟨T9.out.trans (t10.mono (T := fun b => b = X.g ∨ b = X.x ∨ b = X.gp ∨ (Value.slice A st.out.length c).ownBlock = some b) (fun b _ hb => by rcases hb with hb | hb; exact .inr (.inl hb); exact .inr (.inr (.inl hb)))), rfl, .slice none 0 0, .slice none 0 0, A, c, _, _, i10, Newer.refl _ _, .inr (fun g hg => by simp [Value.ownBlock] at hg), .inr (fun g hg => by simp [Value.ownBlock] at hg)⟩
              · have HE := Lib.hid (HR6.out.trans (show _ = .bad 12 by rw [decide_eq_true (by omega)]; exact bindG_bad _ (refG_yes 12 _ _)))
                have HFU := Lib.hid hful
                clear hful HR6
                go_wp2_with fail
                refine (full_no X.B X.x _ st.out A c lf w5 I5.out.ia (by omega) (Int.not_le.2 HFU.out)).mono ?_
                rintro e w9 ⟨rfl, t9⟩
                go_wp2_with fail
                exact ⟨rfl, HQ.out _ _ <| StepTo.bad HE.out (T0.out _ _ (T5.out.trans (t9.mono fun _ _ h => h.elim))) (I5.out.quiet t9)⟩
            · have d1 : (((mm : Nat) : Int) == ((y : Nat) : Int)) = false := by rw [beq_eq_false_iff_ne]; omega
              have d2 : (mm == y) = false := by rw [beq_eq_false_iff_ne]; exact hmy
              have d3 : (((mm : Nat) : Int) != ((y : Nat) : Int)) = true := by rw [bne, d1]; rfl
              have HE := Lib.hid (HR5.out.trans (show _ = .bad 11 by rw [decide_eq_true (by omega)]; exact bindG_bad _ (refG_yes 11 _ _)))
              clear hmy hy HR5
              go_wp2_with fail
              refine GM4.out.mono ?_
              rintro e w5 ⟨t5, rfl, R5⟩
              have I5 := Lib.hid (I4.out.read t5 R5)
              have T5 := Lib.hid (T4.out.trans t5)
              clear t5 R5 GM4
              go_wp2_with fail
              refine (GY.out _).mono ?_
              rintro e w6 ⟨rfl, rfl⟩
              go_wp2_with fail
              exact ⟨rfl, HQ.out _ _ <| StepTo.bad HE.out (T0.out _ _ T5.out) I5.out⟩
          · have GM4 := Lib.hid (number_no 16 w4 I4.out.hp I4.out.rd hob hbl (by omega) hq4)
            have HE := Lib.hid (HR4.out.trans (bindG_miss _ (numG_no hq4)))
            clear hq4 HR4
            go_wp2_with fail
            refine GM4.out.mono ?_
            rintro e w9 ⟨t9, rfl, R9⟩
            go_wp2_with fail
            exact ⟨rfl, HQ.out _ _ <| StepTo.miss HE.out (T0.out _ _ (T4.out.trans t9)) (I4.out.read t9 R9)⟩
        · have GM3 := Lib.hid (number_no 16 w3 I3.out.hp I3.out.rd hob hbl (by omega) hq3)
          have HE := Lib.hid (HR3.out.trans (bindG_miss _ (numG_no hq3)))
          clear hq3 HR3
          go_wp2_with fail
          refine GM3.out.mono ?_
          rintro e w9 ⟨t9, rfl, R9⟩
          go_wp2_with fail
          exact ⟨rfl, HQ.out _ _ <| StepTo.miss HE.out (T0.out _ _ (T3.out.trans t9)) (I3.out.read t9 R9)⟩
      · clear hv2
        have HRF := Lib.hid (HR2.out.trans (show _ = .ok { st with ph := 2, last := la, left := 0, ls := fixL, ds := fixD } (p + 1 + 2) by rw [if_neg (by decide), if_pos rfl]; rfl))
        clear HR2
        go_upto_region 5 with (first | (go_at_call 43; refine GM2.out.mono ?_; rintro e w2 ⟨t2, rfl, R2⟩; have I2 := Lib.hid (I1.out.read t2 R2); have T2 := Lib.hid (T1.out.trans t2); clear t2 R2))
        clear GM2
        have hva : ∀ b, (Value.slice A st.out.length c).ownBlock = some b → b < w2.heap.size := fun b hb => (I2.out.ia.own.lt b hb).2
        have hB2 : X.B ≤ w2.heap.size := Nat.le_trans hB T2.out.size
        go_wp2_with fail
        refine (fixed_any w2).mono ?_
        rintro e w9 ⟨ga, gb, rfl, oa, ob, hne, b9⟩
        have I9 := Lib.hid (I2.out.below b9)
        have T9 := Lib.hid (T0.out _ _ (T2.out.trans (TurnsIn.ofNew b9)))
        have hga := oa.lt ga rfl
        have hgb := ob.lt gb rfl
        have OA := Lib.hid (oa.mono hB2)
        have OB := Lib.hid (ob.mono hB2)
        have HVA := Lib.hid hva
        have hww : w.heap.size ≤ w2.heap.size := T2.out.size
        clear oa ob b9 hva
        have b0 := I9.out.ia.blk
        have bp0 := I9.out.hp
        have hxp : X.x ≠ X.gp := Block.ne_of b0 bp0 (by decide)
        have hpx : X.gp ≠ X.x := Ne.symm hxp
        have b5 := b0.set_ 5 (.bool la)
        have b6 := b5.set_ 6 (.int .i64 0)
        have b4 := b6.set_ 4 (.int .u8 2)
        have b7 := b4.set_ 7 (.slice (some ⟨ga, 0, none⟩) 288 288)
        have b8 := b7.set_ 8 (.slice (some ⟨gb, 0, none⟩) 32 32)
        have z5 := b0.frozen 5
        have z6 := b5.frozen 6
        have z4 := b6.frozen 4
        have z7 := b4.frozen 7
        have z8 := b7.frozen 8
        have x5 : w9.cell? ⟨X.x, 5, none⟩ = some (.bool st.last) := b0.cell 5
        have x6 : (w9.setCell ⟨X.x, 5, none⟩ (.bool la)).cell? ⟨X.x, 6, none⟩ = some (.int .i64 (st.left : Int)) := b5.cell 6
        have x4 := (b6.cell 4).trans (show _ = some (Value.int .u8 st.ph) from rfl)
        have x7 := (b4.cell 7).trans (show _ = some vs from rfl)
        have x8 := (b7.cell 8).trans (show _ = some vd from rfl)
        have p1 := ((((bp0.far (p := ⟨X.x, 5, none⟩) hpx (.bool la)).far (p := ⟨X.x, 6, none⟩) hpx (.int .i64 0)).far (p := ⟨X.x, 4, none⟩) hpx (.int .u8 2)).far (p := ⟨X.x, 7, none⟩) hpx (.slice (some ⟨ga, 0, none⟩) 288 288)).far (p := ⟨X.x, 8, none⟩) hpx (.slice (some ⟨gb, 0, none⟩) 32 32)
        have p2 := p1.set_ 1 (.pointer none)
        have y1 := (p1.cell 1).trans (show _ = some u1 from rfl)
        have y2 := (p2.cell 2).trans (show _ = some u2 from rfl)
        have f1 := p1.frozen 1
        have f2 := p2.frozen 2
        have FIN := Lib.hid (open_fin 2 la 0 I9.out OA.out OB.out (fun b hb => ⟨fun he => by have h1 := HVA.out b hb; have h2 : ga = b := Option.some.inj he; omega, fun he => by have h1 := HVA.out b hb; have h2 : gb = b := Option.some.inj he; omega⟩) (by simp [capV]) rfl)
        clear b0 bp0 b5 b6 b4 b7 b8 p1 p2
        go_wp2_with fail
        go_end0
        refine HQ.out _ _ ?_
        rw [HRF.out]
        obtain ⟨i10, t10⟩ := FIN.out
        refine ⟨T9.out.trans (t10.mono (T := fun b => b = X.g ∨ b = X.x ∨ b = X.gp ∨ (Value.slice A st.out.length c).ownBlock = some b) (fun b _ hb => by rcases hb with hb | hb; exact .inr (.inl hb); exact .inr (.inr (.inl hb)))), rfl, .slice (some ⟨ga, 0, none⟩) 288 288, .slice (some ⟨gb, 0, none⟩) 32 32, A, c, _, _, i10, Newer.refl _ _, .inr (fun g hg => by have h2 : ga = g := Option.some.inj hg; omega), .inr (fun g hg => by have h2 : gb = g := Option.some.inj hg; omega)⟩
      · clear hv2
        have HR3 := Lib.hid (HR2.out.trans (show _ = bindG dynG (fun l => pureG { st with ph := 2, last := la, left := 0, ls := l.1, ds := l.2 }) (bitsOf X.bs) (p + 1 + 2) by rw [if_neg (by decide), if_neg (by decide), if_pos rfl]))
        clear HR2
        go_upto_region 5 with (first | (go_at_call 43; refine GM2.out.mono ?_; rintro e w2 ⟨t2, rfl, R2⟩; have I2 := Lib.hid (I1.out.read t2 R2); have T2 := Lib.hid (T1.out.trans t2); clear t2 R2))
        clear GM2
        have hva : ∀ b, (Value.slice A st.out.length c).ownBlock = some b → b < w2.heap.size := fun b hb => (I2.out.ia.own.lt b hb).2
        have hB2 : X.B ≤ w2.heap.size := Nat.le_trans hB T2.out.size
        have GD := Lib.hid (dynamic_any X.B' X.g X.gp X.v u1 u2 X.bs (p + 1 + 2) w2 I2.out.hp I2.out.rd hob hbl (laid_far HL.out (by decide) T2.out HGL.out))
        unfold DynTo at GD
        obtain ⟨z, hz⟩ : ∃ z, dynG (bitsOf X.bs) (p + 1 + 2) = z := ⟨_, rfl⟩
        rw [hz] at GD
        have HZ := Lib.hid hz
        clear hz
        cases z with
        | miss =>
          have HE := Lib.hid (HR3.out.trans (bindG_miss _ HZ.out))
          unfold missingE at GD
          go_wp2_with fail
          refine GD.out.mono ?_
          rintro e w9 ⟨t9, rfl, q9, R9⟩
          go_wp2_with fail
          exact ⟨rfl, HQ.out _ _ <| StepTo.miss HE.out (T0.out _ _ (T2.out.trans t9)) (I2.out.read t9 R9)⟩
        | bad why =>
          have HE := Lib.hid (HR3.out.trans (bindG_bad _ HZ.out))
          unfold brokenE at GD
          go_wp2_with fail
          refine GD.out.mono ?_
          rintro e w9 ⟨t9, rfl, q9, R9⟩
          go_wp2_with fail
          exact ⟨rfl, HQ.out _ _ <| StepTo.bad HE.out (T0.out _ _ (T2.out.trans t9)) (I2.out.read t9 R9)⟩
        | ok l q9 =>
          have HRF := Lib.hid (HR3.out.trans (show _ = .ok { st with ph := 2, last := la, left := 0, ls := l.1, ds := l.2 } q9 by rw [bindG_ok _ HZ.out]; rfl))
          go_wp2_with fail
          refine GD.out.mono ?_
          rintro e w9 ⟨t9, R9, ga, gb, rfl, oa, ob⟩
          have I9 := Lib.hid (I2.out.read t9 R9)
          have T9 := Lib.hid (T0.out _ _ (T2.out.trans t9))
          have hga := oa.lt ga rfl
          have hgb := ob.lt gb rfl
          have OA := Lib.hid (oa.mono hB2)
          have OB := Lib.hid (ob.mono hB2)
          have HVA := Lib.hid hva
          have hww : w.heap.size ≤ w2.heap.size := T2.out.size
          clear oa ob t9 R9 hva
          have b0 := I9.out.ia.blk
          have bp0 := I9.out.hp
          have hxp : X.x ≠ X.gp := Block.ne_of b0 bp0 (by decide)
          have hpx : X.gp ≠ X.x := Ne.symm hxp
          have b5 := b0.set_ 5 (.bool la)
          have b6 := b5.set_ 6 (.int .i64 0)
          have b4 := b6.set_ 4 (.int .u8 2)
          have b7 := b4.set_ 7 (.slice (some ⟨ga, 0, none⟩) l.1.length l.1.length)
          have b8 := b7.set_ 8 (.slice (some ⟨gb, 0, none⟩) l.2.length l.2.length)
          have z5 := b0.frozen 5
          have z6 := b5.frozen 6
          have z4 := b6.frozen 4
          have z7 := b4.frozen 7
          have z8 := b7.frozen 8
          have x5 : w9.cell? ⟨X.x, 5, none⟩ = some (.bool st.last) := b0.cell 5
          have x6 : (w9.setCell ⟨X.x, 5, none⟩ (.bool la)).cell? ⟨X.x, 6, none⟩ = some (.int .i64 (st.left : Int)) := b5.cell 6
          have x4 := (b6.cell 4).trans (show _ = some (Value.int .u8 st.ph) from rfl)
          have x7 := (b4.cell 7).trans (show _ = some vs from rfl)
          have x8 := (b7.cell 8).trans (show _ = some vd from rfl)
          have p1 := ((((bp0.far (p := ⟨X.x, 5, none⟩) hpx (.bool la)).far (p := ⟨X.x, 6, none⟩) hpx (.int .i64 0)).far (p := ⟨X.x, 4, none⟩) hpx (.int .u8 2)).far (p := ⟨X.x, 7, none⟩) hpx (.slice (some ⟨ga, 0, none⟩) l.1.length l.1.length)).far (p := ⟨X.x, 8, none⟩) hpx (.slice (some ⟨gb, 0, none⟩) l.2.length l.2.length)
          have p2 := p1.set_ 1 (.pointer none)
          have y1 := (p1.cell 1).trans (show _ = some u1 from rfl)
          have y2 := (p2.cell 2).trans (show _ = some u2 from rfl)
          have f1 := p1.frozen 1
          have f2 := p2.frozen 2
          have FIN := Lib.hid (open_fin 2 la 0 I9.out OA.out OB.out (fun b hb => ⟨fun he => by have h1 := HVA.out b hb; have h2 : ga = b := Option.some.inj he; omega, fun he => by have h1 := HVA.out b hb; have h2 : gb = b := Option.some.inj he; omega⟩) ⟨(by have h9 := dyn_ok HB.out HZ.out; show l.1.length ≤ 288; omega), (by have h9 := dyn_ok HB.out HZ.out; show l.2.length ≤ 32; omega)⟩ rfl)
          clear b0 bp0 b5 b6 b4 b7 b8 p1 p2
          go_wp2_with fail
          go_end0
          refine HQ.out _ _ ?_
          rw [HRF.out]
          obtain ⟨i10, t10⟩ := FIN.out
          refine ⟨T9.out.trans (t10.mono (T := fun b => b = X.g ∨ b = X.x ∨ b = X.gp ∨ (Value.slice A st.out.length c).ownBlock = some b) (fun b _ hb => by rcases hb with hb | hb; exact .inr (.inl hb); exact .inr (.inr (.inl hb)))), rfl, .slice (some ⟨ga, 0, none⟩) l.1.length l.1.length, .slice (some ⟨gb, 0, none⟩) l.2.length l.2.length, A, c, _, _, i10, Newer.refl _ _, .inr (fun g hg => by have h2 : ga = g := Option.some.inj hg; omega), .inr (fun g hg => by have h2 : gb = g := Option.some.inj hg; omega)⟩
      · clear hv2
        have HE := Lib.hid (HR2.out.trans (show _ = .bad 11 by rw [if_neg (by decide), if_neg (by decide), if_neg (by decide)]; exact bindG_bad _ (refG_yes 11 _ _)))
        clear HR2
        go_upto_region 5 with (first | (go_at_call 43; refine GM2.out.mono ?_; rintro e w2 ⟨t2, rfl, R2⟩; have I2 := Lib.hid (I1.out.read t2 R2); have T2 := Lib.hid (T1.out.trans t2); clear t2 R2))
        clear GM2
        go_wp2_with fail
        refine (GY.out _).mono ?_
        rintro e w6 ⟨rfl, rfl⟩
        go_wp2_with fail
        exact ⟨rfl, HQ.out _ _ <| StepTo.bad HE.out (T0.out _ _ T2.out) I2.out⟩
    · have GM2 := Lib.hid (number_no 2 w1 I1.out.hp I1.out.rd hob hbl (by omega) hq2)
      have HE := Lib.hid (HR1.out.trans (bindG_miss _ (numG_no hq2)))
      clear hq2 HR1 GM1
      go_wp2_with fail
      refine GM2.out.mono ?_
      rintro e w9 ⟨t9, rfl, R9⟩
      go_wp2_with fail
      exact ⟨rfl, HQ.out _ _ <| StepTo.miss HE.out (T0.out _ _ (T1.out.trans t9)) (I1.out.read t9 R9)⟩
  · have GM1 := Lib.hid (number_no 1 w HH.out.hp HH.out.rd hob hbl (by omega) hq1)
    have HE := Lib.hid (HR.out.trans (bindG_miss _ (numG_no hq1)))
    clear hq1 HR
    go_enter Tryd.func31, Tryd.ntmps31
    go_wp2_with fail
    refine GM1.out.mono ?_
    rintro e w9 ⟨t9, rfl, R9⟩
    go_wp2_with fail
    exact ⟨rfl, HQ.out _ _ <| StepTo.miss HE.out (T0.out _ _ t9) (HH.out.read t9 R9)⟩
end Go.Proofs.YthflefdchgpbdaaDoor.Inf
