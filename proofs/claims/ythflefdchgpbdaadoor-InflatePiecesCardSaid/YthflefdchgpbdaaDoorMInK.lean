/-
  Layer 13, inflate: a symbol, and what belongs to it: the program's contract. Conditions: as each theorem names.
-/
import Derived.Test.YthflefdchgpbdaaDoorMInJ
namespace Go.Proofs.YthflefdchgpbdaaDoor.Inf
open Go.ChangeShapes Go.WideShapes Go.ChangeAt Go.RowKit Go.Proofs.YthflefdchgpbdaaDoor.Kit Go.Proofs.YthflefdchgpbdaaDoor.Bits Go.Proofs.YthflefdchgpbdaaDoor.Huf Go.Proofs.YthflefdchgpbdaaDoor.Df

theorem InAt.tables {w w' : World} {X : Cx} {st : St} {vs vd : Value} {A : Option Addr} {c p : Nat} {u1 u2 u1' u2' : Value} (h : InAt w X st vs vd A c p u1 u2) (t : TurnsIn (· = X.gp) w w') (hp : Block w' X.gp 76 #[.pointer (some ⟨X.g, 0, none⟩), u1', u2']) (tb : TabsAt w' st u1' u2') : InAt w' X st vs vd A c p u1' u2' :=
  ⟨h.ia.far t (Block.ne_of h.ia.blk h.hp (by decide)) (fun b hb he => h.ia.own.ne_block h.hp (by decide) (by rw [hb, he])), h.os.out t (fun b hb he => h.os.ne_block h.hp (by decide) (by rw [hb, he])), h.od.out t (fun b hb he => h.od.ne_block h.hp (by decide) (by rw [hb, he])), hp,
    h.rd.out t (Block.ne_of h.rd.blk h.hp (by decide)) (fun b hb he => h.rd.own.ne_block h.hp (by decide) (by rw [hb, he])), tb, h.ap, h.cp⟩
theorem InAt.close {w w' : World} {X : Cx} {st : St} {vs vd : Value} {A : Option Addr} {c p : Nat} {u1 u2 : Value} (h : InAt w X st vs vd A c p u1 u2) (t : TurnsIn (· = X.x) w w') (i : IAt w' X.B X.x (icOf X st vs vd).closed st.out A c) : InAt w' X st.closed (.slice none 0 0) (.slice none 0 0) A c p u1 u2 :=
  ⟨i, Own.nil _ _ _ _, Own.nil _ _ _ _, h.hp.out t (Block.ne_of h.hp h.ia.blk (by decide)), h.rd.out t (Block.ne_of h.rd.blk h.ia.blk (by decide)) (fun b hb he => h.rd.own.ne_block h.ia.blk (by decide) (by rw [hb, he])), fun e => by
    have : st.closed.ph = 0 ∨ st.closed.ph = 3 := by
      show (if st.last then (3 : Int) else 0) = 0 ∨ (if st.last then (3 : Int) else 0) = 3
      split <;> omega
    omega, fun b hb => ⟨(h.ap b hb).1, by simp [Value.ownBlock], by simp [Value.ownBlock]⟩, by simp [capV]⟩

set_option maxRecDepth 100000 in
set_option maxHeartbeats 12800000 in
theorem step_any (X : Cx) (st : St) (vs vd : Value) (A : Option Addr) (c p : Nat) (u1 u2 : Value) (w : World) (h : InAt w X st vs vd A c p u1 u2) (hs : SOk X.most st p) (h2 : st.ph = 2) (hob : Octets X.bs) (hbl : X.bs.length ≤ 1000000) (hB : X.B ≤ w.heap.size) (hm : X.most ≤ 1000000) :
    Calls Tryd.prog 33 #[.pointer (some ⟨X.x, 0, none⟩), .pointer (some ⟨X.gp, 0, none⟩)] w (StepTo X st vs vd A c (codeG X.most st (bitsOf X.bs) p) w) := by
  have hcod := hs.codes h2
  have HC := Lib.hid hcod
  have HS := Lib.hid hs
  have HH := Lib.hid h
  have H2 := Lib.hid h2
  have hls : st.ls.length ≤ 288 := hs.lists.1
  have hds : st.ds.length ≤ 32 := hs.lists.2
  have hol : st.out.length ≤ 1000000 := by have := hs.len; omega
  have HB := Lib.hid (bitsOf_bit X.bs)
  obtain ⟨r, hr⟩ : ∃ r, codeG X.most st (bitsOf X.bs) p = r := ⟨_, rfl⟩
  rw [hr]
  have HR := Lib.hid hr.symm
  obtain ⟨Q, hQ⟩ : ∃ Q, StepTo X st vs vd A c r w = Q := ⟨_, rfl⟩
  rw [hQ]
  have HQ : Hid (∀ e w', StepTo X st vs vd A c r w e w' → Q e w') := Lib.hid (fun e w' h => by rw [← hQ]; exact h)
  clear hQ
  have T0 := Lib.hid (fun (w w' : World) (t : TurnsIn (· = X.g) w w') => t.mono (T := fun b => b = X.g ∨ b = X.x ∨ b = X.gp ∨ (Value.slice A st.out.length c).ownBlock = some b) (fun b _ hb => .inl hb))
  have htb := h.tb h2
  clear hr hcod hs h2
  rcases htb with rfl | ⟨gt, vt1, gd, vt2, B1, B2, rfl, rfl, tb1, tb2⟩
  case' inl =>
    have y1 : w.cell? ⟨X.gp, 1, none⟩ = some (.pointer none) := HH.out.hp.cell 1
    obtain ⟨As, cs, hvs, hcs, hms, hhs⟩ := HH.out.os.opened
    obtain ⟨Ad, cd, hvd, hcd, hmd, hhd⟩ := HH.out.od.opened
    have x7 : w.cell? ⟨X.x, 7, none⟩ = some (.slice As st.ls.length cs) := by rw [← hvs]; exact HH.out.ia.blk.cell 7
    have HVD := Lib.hid hvd
    clear hvs hvd
    have G1 := Lib.hid (new_yes As st.ls cs w HC.out.2.1 hcs hms hhs HC.out.1)
    unfold NewOk at G1
    have hpl := h.hp.lt
    have hxl := h.ia.blk.lt
    have hxp : X.x ≠ X.gp := Block.ne_of h.ia.blk h.hp (by decide)
    have HHD := Lib.hid hhd
    clear h hhs hhd
    go_enter Tryd.func33, Tryd.ntmps33
    go_wp2_with fail
    refine G1.out.mono ?_
    rintro e w2 ⟨gt, vt1, rfl, hgt, tb1, b2⟩
    have z1 : w2.frozen? ⟨X.gp, 1, none⟩ = false := (HH.out.hp.below b2 hpl).frozen 1
    have z1c : w2.cell? ⟨X.gp, 1, none⟩ = some (.pointer none) := (HH.out.hp.below b2 hpl).cell 1
    have x8 : (w2.setCell ⟨X.gp, 1, none⟩ (.pointer (some ⟨gt, 0, none⟩))).cell? ⟨X.x, 8, none⟩ = some (.slice Ad st.ds.length cd) := by rw [← HVD.out]; exact ((HH.out.ia.blk.below b2 hxl).far (p := ⟨X.gp, 1, none⟩) hxp _).cell 8
    have t3 : TurnsIn (· = X.gp) w (w2.setCell ⟨X.gp, 1, none⟩ (.pointer (some ⟨gt, 0, none⟩))) := (TurnsIn.ofNew (S := (· = X.gp)) b2).setCell (p := ⟨X.gp, 1, none⟩) (.inl rfl) _
    have hp3 := (HH.out.hp.below b2 hpl).set_ 1 (.pointer (some ⟨gt, 0, none⟩))
    have od3 := HH.out.od.out t3 (fun b hb he => HH.out.od.ne_block HH.out.hp (by decide) (by rw [hb, he]))
    rw [HVD.out] at od3
    obtain ⟨_, _, _, _, _, hh3⟩ := own_open od3
    have G2 := Lib.hid (new_yes Ad st.ds cd _ HC.out.2.2.2 hcd hmd hh3 HC.out.2.2.1)
    unfold NewOk at G2
    have tb3 := Tb.turn tb1 ((TurnsIn.refl (· = X.gp) w2).setCell (p := ⟨X.gp, 1, none⟩) (.inl rfl) (.pointer (some ⟨gt, 0, none⟩))) (fun b ty cs k1 k2 => by
      subst k2
      have := block_ty k1 (HH.out.hp.below b2 hpl)
      subst this
      exact ⟨by decide, by decide⟩)
    have TB3 := Lib.hid tb3
    have T3 := Lib.hid t3
    have HP3 := Lib.hid hp3
    have hsz2 := b2.size
    clear tb1 tb3 t3 hp3 od3 hh3 b2 G1
    go_wp2_with fail
    refine G2.out.mono ?_
    rintro e w4 ⟨gd, vt2, rfl, hgd, tb2, b4⟩
    have hp4 := HP3.out.below b4 HP3.out.lt
    have z4 : w4.frozen? ⟨X.gp, 2, none⟩ = false := hp4.frozen 2
    have z4c : w4.cell? ⟨X.gp, 2, none⟩ = some u2 := hp4.cell 2
    have tb4 := TB3.out.out (TurnsIn.ofNew (S := fun _ => False) b4) (fun h => h) (fun _ _ h => h)
    have ts : TurnsIn (· = X.gp) w4 (w4.setCell ⟨X.gp, 2, none⟩ (.pointer (some ⟨gd, 0, none⟩))) := (TurnsIn.refl (· = X.gp) w4).setCell (p := ⟨X.gp, 2, none⟩) (.inl rfl) _
    have hty : ∀ b ty cs, Block w4 b ty cs → b = X.gp → ty ≠ 108 ∧ ty ≠ 100 := fun b ty cs k1 k2 => by
      subst k2
      have := block_ty k1 hp4
      subst this
      exact ⟨by decide, by decide⟩
    obtain ⟨B1, hB1⟩ : ∃ B, w.heap.size = B := ⟨_, rfl⟩
    obtain ⟨B2, hB2⟩ : ∃ B, (w2.setCell ⟨X.gp, 1, none⟩ (.pointer (some ⟨gt, 0, none⟩))).heap.size = B := ⟨_, rfl⟩
    rw [hB2] at tb2
    have TB1 : Hid (Tb (w4.setCell ⟨X.gp, 2, none⟩ (.pointer (some ⟨gd, 0, none⟩))) w.heap.size gt vt1 st.ls 15 (syms st.ls 15)) := Lib.hid (Tb.turn tb4 ts hty)
    have TB2 : Hid (Tb (w4.setCell ⟨X.gp, 2, none⟩ (.pointer (some ⟨gd, 0, none⟩))) B2 gd vt2 st.ds 15 (syms st.ds 15)) := Lib.hid (Tb.turn tb2 ts hty)
    rw [hB1] at TB1
    have t5 := (T3.out.trans (TurnsIn.ofNew b4)).trans ts
    have hp5 := hp4.set_ 2 (.pointer (some ⟨gd, 0, none⟩))
    have I5 := Lib.hid (HH.out.tables t5 hp5 (fun _ => .inr ⟨gt, vt1, gd, vt2, B1, B2, rfl, rfl, TB1.out, TB2.out⟩))
    have T5 := Lib.hid (t5.mono (T := fun b => b = X.g ∨ b = X.x ∨ b = X.gp ∨ (Value.slice A st.out.length c).ownBlock = some b) (fun b _ hb => .inr (.inr (.inl hb))))
    clear tb4 tb2 hp4 ts hty t5 hp5 hB1 hB2 b4 G2 x7 x8 hcs hms hcd hmd HHD TB3 T3 HP3 HVD
    obtain ⟨w5, hw5⟩ : ∃ w5, w4.setCell ⟨X.gp, 2, none⟩ (.pointer (some ⟨gd, 0, none⟩)) = w5 := ⟨_, rfl⟩
    rw [hw5] at I5 T5 TB1 TB2
    have HW5 := Lib.hid hw5
    clear hw5
    go_upto_region 3 with (fail)
    rw [HW5.out]
    clear HW5 z1 z1c z4 z4c y1
  case' inr =>
    have y1 : w.cell? ⟨X.gp, 1, none⟩ = some (.pointer (some ⟨gt, 0, none⟩)) := HH.out.hp.cell 1
    obtain ⟨w5, hw5⟩ : ∃ w5, w5 = w := ⟨w, rfl⟩
    have I5 : Hid (InAt w5 X st vs vd A c p (.pointer (some ⟨gt, 0, none⟩)) (.pointer (some ⟨gd, 0, none⟩))) := Lib.hid (by rw [hw5]; exact HH.out)
    have TB1 : Hid (Tb w5 B1 gt vt1 st.ls 15 (syms st.ls 15)) := Lib.hid (by rw [hw5]; exact tb1)
    have TB2 : Hid (Tb w5 B2 gd vt2 st.ds 15 (syms st.ds 15)) := Lib.hid (by rw [hw5]; exact tb2)
    have T5 : Hid (TurnsIn (fun b => b = X.g ∨ b = X.x ∨ b = X.gp ∨ (Value.slice A st.out.length c).ownBlock = some b) w w5) := Lib.hid (by rw [hw5]; exact TurnsIn.refl _ _)
    have HW := Lib.hid hw5
    clear h tb1 tb2 hw5
    go_enter Tryd.func33, Tryd.ntmps33
    go_upto_region 3 with (fail)
    rw [← HW.out]
  all_goals
    have hB5 : X.B ≤ w5.heap.size := Nat.le_trans hB T5.out.size
    have y5 : w5.cell? ⟨X.gp, 1, none⟩ = some (.pointer (some ⟨gt, 0, none⟩)) := I5.out.hp.cell 1
    rcases sym_cases I5.out.hp (by omega) HC.out.1 HC.out.2.1 I5.out.rd hob hbl TB1.out with ⟨s, k, ht, hg⟩ | ⟨hs1, hg⟩ | ⟨hs1, hg⟩
    · have hsr := told_lt HC.out.1 HC.out.2.1 (HB.out.drop _) ht
      have HR1 : Hid (r = (if s < 256 then bindG (refG (decide (X.most < st.out.length + 1)) 12) fun _ => pureG { st with out := st.out ++ [s] } else if s = 256 then pureG st.closed else bindG (matchG (s - 257) st.ds st.out.length X.most) fun m => pureG { st with out := rep st.out m.1.toNat m.2.toNat }) (bitsOf X.bs) (p + k)) := Lib.hid (by
        rw [HR.out]
        unfold codeG
        rw [bindG_ok _ (symG_sym ht)])
      have GS := Lib.hid hg
      clear hg ht HR
      go_upto_region 5 with (first | (go_at_call 51; refine GS.out.mono ?_; rintro e w7 ⟨rfl, t7, R7⟩; have I7 := Lib.hid (I5.out.read t7 R7); have T7 := Lib.hid (T5.out.trans (T0.out _ _ t7)); have TB7 := Lib.hid (Tb.turn TB2.out t7 (fun b ty cs k1 k2 => by (subst k2; have := block_ty k1 I5.out.rd.blk; subst this; exact ⟨by decide, by decide⟩))); clear t7 R7))
      clear GS
      have hB7 : X.B ≤ w7.heap.size := Nat.le_trans hB T7.out.size
      by_cases c0 : s < 256
      · obtain ⟨e0, rfl⟩ := Int.eq_ofNat_of_zero_le hsr.1
        have d0 : decide ((e0 : Int) < 256) = true := decide_eq_true c0
        have d0n : decide (e0 < 256) = true := decide_eq_true (by omega)
        have hew : IntKind.u8.wrap (e0 : Int) = (e0 : Int) := by rw [IntKind.wrap_u8]; omega
        have HR2 := Lib.hid (HR1.out.trans (show _ = bindG (refG (decide (X.most < st.out.length + 1)) 12) (fun _ => pureG { st with out := st.out ++ [(e0 : Int)] }) (bitsOf X.bs) (p + k) by rw [if_pos c0]))
        clear c0 HR1
        by_cases hful : ((st.out.length + 1 : Nat) : Int) ≤ X.most
        · have HR3 := Lib.hid (HR2.out.trans (show _ = .ok { st with out := st.out ++ [(e0 : Int)] } (p + k) by rw [decide_eq_false (by omega), ref_no_bind]; rfl))
          have HFU := Lib.hid hful
          clear hful HR2
          go_wp2_with fail
          refine (full_yes X.B X.x _ st.out A c 1 w7 I7.out.ia (by omega) HFU.out).mono ?_
          rintro e w9 ⟨rfl, t9⟩
          have i9 := I7.out.quiet t9
          have I9 := Lib.hid (i9.below ((Below.refl _ _).alloc (Nat.le_refl _) (.cells #[.int .u8 (e0 : Int)] 5)))
          have T9 := Lib.hid (((T7.out.trans (t9.mono fun _ _ h => h.elim)).alloc (.cells #[.int .u8 (e0 : Int)] 5)))
          have hxl : X.x < w9.heap.size := i9.ia.blk.lt
          have hB9 : X.B ≤ (w9.alloc (.cells #[.int .u8 (e0 : Int)] 5)).heap.size := Nat.le_trans hB T9.out.size
          have GT := Lib.hid (tell_any X.B X.x _ st.out [(e0 : Int)] A c (some ⟨w9.heap.size, 0, none⟩) 1 _ hB9 I9.out.ia HFU.out ((Holds.new w9 .u8 (e0 : Int) 5).more (by simp)) (fun b hb => by injection hb with hb; have hb' : w9.heap.size = b := hb; omega))
          unfold TellTo at GT
          clear i9 t9
          go_wp2_with fail
          refine GT.out.mono ?_
          rintro e w10 ⟨rfl, t10, A', c', i10, n10⟩
          have I10 := Lib.hid (I9.out.told t10 i10 n10)
          have T10 := Lib.hid t10
          have N10 := Lib.hid n10
          have hsz9 := T9.out.size
          clear t10 i10 n10
          go_wp2_with fail
          go_end0
          refine HQ.out _ _ ?_
          rw [HR3.out]
          refine ⟨T9.out.then_ T10.out (fun b _ hb => ?_), rfl, vs, vd, A', c', _, _, I10.out, Newer.trans (Newer.refl _ _) hsz9 N10.out, Newer.refl _ _, Newer.refl _ _⟩
          rcases hb with hb | hb
          · exact .inr (.inl hb)
          · exact .inr (.inr (.inr hb))
        · have HE := Lib.hid (HR2.out.trans (show _ = .bad 12 by rw [decide_eq_true (by omega)]; exact bindG_bad _ (refG_yes 12 _ _)))
          have HFU := Lib.hid hful
          clear hful HR2
          go_wp2_with fail
          refine (full_no X.B X.x _ st.out A c 1 w7 I7.out.ia (by omega) (Int.not_le.2 HFU.out)).mono ?_
          rintro e w9 ⟨rfl, t9⟩
          go_wp2_with fail
          exact ⟨rfl, HQ.out _ _ <| StepTo.bad HE.out (T7.out.trans (t9.mono fun _ _ h => h.elim)) (I7.out.quiet t9)⟩
      · have d0 : decide (s < 256) = false := decide_eq_false c0
        by_cases c1 : s = 256
        · subst c1
          have HR2 := Lib.hid (HR1.out.trans (show _ = .ok st.closed (p + k) by rw [if_neg (by decide), if_pos rfl]; rfl))
          clear c0 HR1
          go_wp2_with fail
          refine (close_any X.B X.x _ st.out A c w7 I7.out.ia).mono ?_
          rintro e w9 ⟨rfl, t9, i9⟩
          have I9 := Lib.hid (I7.out.close t9 i9)
          have T9 := Lib.hid (T7.out.trans (t9.mono (T := fun b => b = X.g ∨ b = X.x ∨ b = X.gp ∨ (Value.slice A st.out.length c).ownBlock = some b) (fun b _ hb => .inr (.inl hb))))
          clear t9 i9
          go_wp2_with fail
          go_end0
          refine HQ.out _ _ ?_
          rw [HR2.out]
          exact ⟨T9.out, rfl, _, _, A, c, _, _, I9.out, Newer.refl _ _, .inr (fun g hg => by simp [Value.ownBlock] at hg), .inr (fun g hg => by simp [Value.ownBlock] at hg)⟩
        · have d1 : (s == 256) = false := by rw [beq_eq_false_iff_ne]; exact c1
          have HR2 := Lib.hid (HR1.out.trans (show _ = bindG (matchG (s - 257) st.ds st.out.length X.most) (fun m => pureG { st with out := rep st.out m.1.toNat m.2.toNat }) (bitsOf X.bs) (p + k) by rw [if_neg c0, if_neg c1]))
          have hsw : IntKind.i64.wrap (s - 257) = s - 257 := by rw [IntKind.wrap_i64]; omega
          have hs3 : SOk X.most st (p + k) := ⟨HS.out.ph, HS.out.len, HS.out.oct, fun e => absurd e (by rw [H2.out]; decide), HS.out.codes, HS.out.lists, HS.out.none⟩
          have GM := Lib.hid (match_any X st vs vd A c (p + k) (.pointer (some ⟨gt, 0, none⟩)) gd B2 vt2 (s - 257) w7 I7.out hs3 H2.out TB7.out (by omega) hob hbl hB7 hm)
          obtain ⟨z, hz⟩ : ∃ z, bindG (matchG (s - 257) st.ds st.out.length X.most) (fun m => pureG { st with out := rep st.out m.1.toNat m.2.toNat }) (bitsOf X.bs) (p + k) = z := ⟨_, rfl⟩
          rw [hz] at HR2 GM
          unfold StepTo at GM
          clear c0 c1 HR1 hs3 hz
          cases z with
          | miss =>
            unfold missingE at GM
            go_wp2_with fail
            refine GM.out.mono ?_
            rintro e w9 ⟨t9, rfl, q9, x1, x2, i9⟩
            go_wp2_with fail
            exact ⟨rfl, HQ.out _ _ <| StepTo.miss HR2.out (T7.out.trans t9) i9⟩
          | bad why =>
            unfold brokenE at GM
            go_wp2_with fail
            refine GM.out.mono ?_
            rintro e w9 ⟨t9, rfl, q9, x1, x2, i9⟩
            go_wp2_with fail
            exact ⟨rfl, HQ.out _ _ <| StepTo.bad HR2.out (T7.out.trans t9) i9⟩
          | ok st' q9 =>
            go_wp2_with fail
            refine GM.out.mono ?_
            rintro e w9 ⟨t9, rfl, vs', vd', A', c', x1, x2, i9, n1, n2, n3⟩
            have T9 := Lib.hid (T7.out.trans t9)
            have I9 := Lib.hid i9
            have N9 := Lib.hid (And.intro n1 (And.intro n2 n3))
            have hsz7 := T7.out.size
            clear t9 i9 n1 n2 n3
            go_wp2_with fail
            go_end0
            refine HQ.out _ _ ?_
            rw [HR2.out]
            exact ⟨T9.out, rfl, vs', vd', A', c', x1, x2, I9.out, Newer.trans (Newer.refl _ _) hsz7 N9.out.1, Newer.trans (Newer.refl _ _) hsz7 N9.out.2.1, Newer.trans (Newer.refl _ _) hsz7 N9.out.2.2⟩
    · have HE := Lib.hid (HR.out.trans (by unfold codeG; exact bindG_miss _ hs1 : _ = Res.miss))
      have GS := Lib.hid hg
      clear hg hs1 HR
      go_wp2_with fail
      refine GS.out.mono ?_
      rintro e w7 ⟨rfl, t7, R7⟩
      go_wp2_with fail
      exact ⟨rfl, HQ.out _ _ <| StepTo.miss HE.out (T5.out.trans (T0.out _ _ t7)) (I5.out.read t7 R7)⟩
    · have HE := Lib.hid (HR.out.trans (by unfold codeG; exact bindG_bad _ hs1 : _ = Res.bad 11))
      have GS := Lib.hid hg
      clear hg hs1 HR
      go_wp2_with fail
      refine GS.out.mono ?_
      rintro e w7 ⟨rfl, t7, R7⟩
      go_wp2_with fail
      exact ⟨rfl, HQ.out _ _ <| StepTo.bad HE.out (T5.out.trans (T0.out _ _ t7)) (I5.out.read t7 R7)⟩
end Go.Proofs.YthflefdchgpbdaaDoor.Inf
