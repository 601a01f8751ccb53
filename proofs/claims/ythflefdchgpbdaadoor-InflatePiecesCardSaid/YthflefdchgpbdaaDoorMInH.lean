/-
  Layer 13, inflate: a row of lengths: the program's contract. Conditions: as each theorem names.
-/
import Derived.Test.YthflefdchgpbdaaDoorMInG
namespace Go.Proofs.YthflefdchgpbdaaDoor.Inf
open Go.ChangeShapes Go.WideShapes Go.ChangeAt Go.RowKit Go.Proofs.YthflefdchgpbdaaDoor.Kit Go.Proofs.YthflefdchgpbdaaDoor.Bits Go.Proofs.YthflefdchgpbdaaDoor.Huf Go.Proofs.YthflefdchgpbdaaDoor.Df

def lenV : Value → Nat
  | .slice _ n _ => n
  | _ => 0
def RowTo (B g : Nat) (v : Value) (bs : List Int) (r : Res (List Int)) (w : World) (e : Ending) (w' : World) : Prop :=
  TurnsIn (· = g) w w' ∧ match r with
  | .miss => e = missingE ∧ ∃ q, Rd w' B g v bs q
  | .bad why => e = brokenE why ∧ ∃ q, Rd w' B g v bs q
  | .ok ys q => Rd w' B g v bs q ∧ ∃ A c, e = .returned (.slice A ys.length c) ∧ Own w' w.heap.size 5 .u8 (.slice A ys.length c) ys
theorem rd_far {N : Nat} {w w' : World} {B g : Nat} {v : Value} {bs : List Int} {p : Nat} (h : Rd w B g v bs p) (t : TurnsIn (fun b => N ≤ b) w w') (hg : g < N) (hv : ∀ b, v.ownBlock = some b → b < N) : Rd w' B g v bs p :=
  h.out t (by omega) (fun b hb he => by have := hv b hb; omega)
theorem RowTo.miss {B g : Nat} {v : Value} {bs : List Int} {r : Res (List Int)} {w w' : World} {q : Nat} (h : r = .miss) (t : TurnsIn (· = g) w w') (R : Rd w' B g v bs q) : RowTo B g v bs r w missingE w' := by
  subst h
  exact ⟨t, rfl, q, R⟩
theorem RowTo.bad {B g : Nat} {v : Value} {bs : List Int} {r : Res (List Int)} {w w' : World} {q : Nat} {why : Int} (h : r = .bad why) (t : TurnsIn (· = g) w w') (R : Rd w' B g v bs q) : RowTo B g v bs r w (brokenE why) w' := by
  subst h
  exact ⟨t, rfl, q, R⟩
theorem row_done {l acc b : List Int} {many f p : Nat} (h : many ≤ acc.length) : rowG l many f acc b p = .ok acc p := by
  cases f with
  | zero => rfl
  | succ f => rw [rowG, if_pos h]; rfl
/-- A round, behind its run. -/
theorem row_run {l acc b : List Int} {many f p q : Nat} {X : Int} {N : Nat} (h : ¬ many ≤ acc.length) (hr : runG l acc b p = .ok (X, (N : Int)) q) : rowG l many (f + 1) acc b p = if many < acc.length + N then .bad 11 else rowG l many f (acc ++ List.replicate N X) b q := by
  rw [rowG, if_neg h, bindG_ok _ hr]
  by_cases c : many < acc.length + N
  · rw [if_pos c]
    simp only
    rw [decide_eq_true (by omega : (many : Int) - acc.length < (N : Int))]
    rfl
  · rw [if_neg c]
    simp only
    rw [decide_eq_false (by omega : ¬ (many : Int) - acc.length < (N : Int)), bindG_ok _ (refG_no 11 b q), Int.toNat_natCast]
theorem row_err {l acc b : List Int} {many f p : Nat} (h : ¬ many ≤ acc.length) : (runG l acc b p = .miss → rowG l many (f + 1) acc b p = .miss) ∧ (∀ e, runG l acc b p = .bad e → rowG l many (f + 1) acc b p = .bad e) := by
  rw [rowG, if_neg h]
  exact ⟨fun h => bindG_miss _ h, fun e h => bindG_bad _ h⟩
theorem symG_sym {l b : List Int} {p n : Nat} {s : Int} (h : told l (b.drop p) = .sym s n) : symG l b p = .ok s (p + n) := by rw [symG_eq, h]
theorem numG_yes {b : List Int} {p n : Nat} (h : p + n ≤ b.length) : numG n b p = .ok (val ((b.drop p).take n)) (p + n) := by unfold numG; rw [if_pos h]
theorem numG_no {b : List Int} {p n : Nat} (h : ¬ p + n ≤ b.length) : numG n b p = .miss := by unfold numG; rw [if_neg h]

theorem number_yes {B g gp : Nat} {v u1 u2 : Value} {bs : List Int} {p : Nat} (n : Nat) (w : World) (hp : Block w gp 76 #[.pointer (some ⟨g, 0, none⟩), u1, u2]) (R : Rd w B g v bs p) (ho : Octets bs) (hl : bs.length ≤ 1000000) (hn : n ≤ 16) (h : p + n ≤ (bitsOf bs).length) :
    Calls Tryd.prog 43 #[.pointer (some ⟨gp, 0, none⟩), .int .i64 (n : Int)] w fun e w' => TurnsIn (· = g) w w' ∧ e = .returned (.int .i64 (val (((bitsOf bs).drop p).take n))) ∧ Rd w' B g v bs (p + n) := by
  refine (number_any B g gp v u1 u2 bs p n w hp R ho hl hn).mono ?_
  rintro e w' ⟨t, h2⟩
  rw [if_pos (by rw [← bitsOf_length]; exact h)] at h2
  exact ⟨t, h2⟩
theorem number_no {B g gp : Nat} {v u1 u2 : Value} {bs : List Int} {p : Nat} (n : Nat) (w : World) (hp : Block w gp 76 #[.pointer (some ⟨g, 0, none⟩), u1, u2]) (R : Rd w B g v bs p) (ho : Octets bs) (hl : bs.length ≤ 1000000) (hn : n ≤ 16) (h : ¬ p + n ≤ (bitsOf bs).length) :
    Calls Tryd.prog 43 #[.pointer (some ⟨gp, 0, none⟩), .int .i64 (n : Int)] w fun e w' => TurnsIn (· = g) w w' ∧ e = .panicked [{ v := .iface 70 (.agg #[]), recovered := false }] ∧ Rd w' B g v bs p := by
  refine (number_any B g gp v u1 u2 bs p n w hp R ho hl hn).mono ?_
  rintro e w' ⟨t, h2⟩
  rw [if_neg (by rw [← bitsOf_length]; exact h)] at h2
  exact ⟨t, h2⟩
set_option maxRecDepth 100000 in
set_option maxHeartbeats 12800000 in
theorem row_any (B g gp gt B' : Nat) (v u1 u2 vt : Value) (bs l : List Int) (p many : Nat) (w : World) (hp : Block w gp 76 #[.pointer (some ⟨g, 0, none⟩), u1, u2]) (R : Rd w B g v bs p) (hob : Octets bs) (hbl : bs.length ≤ 1000000) (hM : mayB l = true) (ho : Octets l) (hl : l.length ≤ 19) (tb : Tb w B' gt vt l 15 (syms l 15)) (hmany : many ≤ 320) :
    Calls Tryd.prog 59 #[.pointer (some ⟨gp, 0, none⟩), .pointer (some ⟨gt, 0, none⟩), .int .i64 (many : Int)] w (RowTo B g v bs (rowG l many 320 [] (bitsOf bs) p) w) := by
  have hgN := R.blk.lt
  have hvN : ∀ b, v.ownBlock = some b → b < w.heap.size := fun b hb => (R.own.lt b hb).2
  have hgp : gp ≠ g := Block.ne_of hp R.blk (by decide)
  have hgt : gt ≠ g := Block.ne_of tb.blk R.blk (by decide)
  have hvt : ∀ b, vt.ownBlock = some b → ¬ b = g := fun b hb he => tb.own.ne_block R.blk (by decide) (by rw [hb, he])
  have HP := Lib.hid hp
  have HT := Lib.hid tb
  have HVN := Lib.hid hvN
  have HVT := Lib.hid hvt
  have HM := Lib.hid hM
  have HO := Lib.hid ho
  obtain ⟨r, hr⟩ : ∃ r, rowG l many 320 [] (bitsOf bs) p = r := ⟨_, rfl⟩
  rw [hr]
  have HR := Lib.hid hr
  clear hr hp tb hvN hvt hM ho
  go_enter Tryd.func59, Tryd.ntmps59
  go_wp2_with fail
  go_loopw [7] (fun x7 wr => ∃ (acc : List Int) (A : Option Addr) (c q f : Nat), x7 = .slice A acc.length c ∧ Own wr w.heap.size 5 .u8 (.slice A acc.length c) acc ∧ Octets acc ∧ acc.length ≤ many ∧ many ≤ acc.length + f ∧ Rd wr B g v bs q ∧ TurnsIn (· = g) w wr ∧ Hid (rowG l many f acc (bitsOf bs) q = r)) (fun x7 _ => many - lenV x7)
  case atStart => exact ⟨[], none, 0, p, 320, rfl, Own.nil _ _ _ _, (fun _ h => absurd h (by simp)), Nat.zero_le _, by simp; omega, R, TurnsIn.refl _ _, HR⟩
  case round =>
    obtain ⟨acc, A, c, q, f, rfl, own, hoa, hle, hf, R2, t2, hG⟩ := hrel
    obtain ⟨n, hn⟩ : ∃ n, acc.length = n := ⟨_, rfl⟩
    have HN := Lib.hid hn
    rw [hn] at hle hf own
    have OW := Lib.hid own
    have HOA := Lib.hid hoa
    have R2h := Lib.hid R2
    have T2 := Lib.hid t2
    have hsz := t2.size
    rw [hn]
    clear own hoa t2 hn R
    by_cases hlt : n < many
    · obtain ⟨f, rfl⟩ : ∃ k, f = k + 1 := ⟨f - 1, by omega⟩
      have HNM := Lib.hid (show ¬ many ≤ acc.length by rw [HN.out]; omega)
      have dlt : decide ((n : Int) < (many : Int)) = true := decide_eq_true (by omega)
      have dlt2 : decide (n < many) = true := decide_eq_true hlt
      have hp2 := HP.out.out T2.out hgp
      have tb2 := HT.out.out T2.out hgt HVT.out
      have G := Lib.hid (symbol_any B g gp gt B' v u1 u2 vt bs l q wr hp2 (by omega) HM.out HO.out R2 hob hbl tb2)
      unfold SymLeaves at G
      obtain ⟨t, ht⟩ : ∃ t, told l ((bitsOf bs).drop q) = t := ⟨_, rfl⟩
      rw [ht] at G
      have HTD := Lib.hid ht
      have HP2 := Lib.hid hp2
      clear ht hp2 tb2 hlt R2
      cases t with
      | short =>
        have HE := Lib.hid (hG.out.symm.trans ((row_err HNM.out).1 (by unfold runG; exact bindG_miss _ (by rw [symG_eq, HTD.out]))))
        unfold missingE at G
        go_wp2_with fail
        refine G.out.mono ?_
        rintro e w3 ⟨t3, rfl, R3⟩
        go_wp2_with fail
        exact ⟨rfl, RowTo.miss HE.out (T2.out.trans t3) R3⟩
      | form =>
        have HE := Lib.hid (hG.out.symm.trans ((row_err HNM.out).2 11 (by unfold runG; exact bindG_bad _ (by rw [symG_eq, HTD.out]))))
        unfold brokenE at G
        go_wp2_with fail
        refine G.out.mono ?_
        rintro e w3 ⟨t3, rfl, R3⟩
        go_wp2_with fail
        exact ⟨rfl, RowTo.bad HE.out (T2.out.trans t3) R3⟩
      | sym s k =>
        have hlen := told_le HTD.out
        have hsr := told_lt HM.out HO.out ((bitsOf_bit bs).drop q) HTD.out
        have GN := Lib.hid (fun W => refuse_no 11 W)
        have GY := Lib.hid (fun W => refuse_yes 11 W)
        have HS := Lib.hid (symG_sym HTD.out)
        clear HTD
        go_wp2_with fail
        refine G.out.mono ?_
        rintro e w3 ⟨t3, rfl, R3⟩
        have hp3 := HP2.out.out t3 hgp
        have own3 := OW.out.out t3 (fun b hb he => OW.out.ne_block R2h.out.blk (by decide) (by rw [hb, he]))
        have T3 := Lib.hid (T2.out.trans t3)
        have R3h := Lib.hid R3
        have hsz3 := t3.size
        have OW3 := Lib.hid own3
        have HP3 := Lib.hid hp3
        clear t3 own3 hp3 G
        by_cases c16 : s = 16
        · obtain rfl : s = 16 := c16
          by_cases h0 : n = 0
          · have HE := Lib.hid (hG.out.symm.trans ((row_err HNM.out).2 11 (by unfold runG; rw [bindG_ok _ HS.out, if_pos rfl, decide_eq_true (by rw [HN.out]; exact h0)]; rfl)))
            have d0 : ((n : Int) == 0) = true := by rw [beq_iff_eq]; omega
            clear h0
            unfold brokenE at GY
            go_wp2_with fail
            refine (GY.out _).mono ?_
            rintro e w5 ⟨rfl, rfl⟩
            go_wp2_with fail
            exact ⟨rfl, RowTo.bad HE.out T3.out R3h.out⟩
          · have d0 : ((n : Int) == 0) = false := by rw [beq_eq_false_iff_ne]; omega
            obtain ⟨ga, ca, eA, hga1, hga2, _, _⟩ := OW3.out.form (by rw [HN.out]; omega)
            injection eA with eA1 eA2 eA3
            subst eA1
            clear eA2 eA3
            obtain ⟨j, hj⟩ : ∃ j, n - 1 = j := ⟨_, rfl⟩
            have y0 : w3.cell? ⟨ga, j, none⟩ = some (.int .u8 (acc[j]?.getD 0)) := OW3.out.cellAt HN.out.symm (by rw [HN.out]; omega)
            have hXb := HOA.out.at_ j
            have HRX : Hid (acc[acc.length - 1]?.getD 0 = acc[j]?.getD 0) := Lib.hid (by rw [HN.out, hj])
            generalize acc[j]?.getD 0 = X at *
            have hjw : IntKind.i64.wrap ((n : Int) - 1) = (j : Int) := by rw [IntKind.wrap_i64]; omega
            have hj0 : (0 : Int) ≤ (j : Int) := by omega
            have hjn : (j : Int) < (n : Int) := by omega
            have Y0 := Lib.hid y0
            have hgag : ga ≠ g := fun he => OW3.out.ne_block R3h.out.blk (by decide) (by rw [he]; rfl)
            by_cases hq : q + k + 2 ≤ (bitsOf bs).length
            · have GM := Lib.hid (number_yes 2 w3.drew (HP3.out.drewN 1) ⟨R3h.out.blk.drewN 1, R3h.out.own.drewN 1, R3h.out.le⟩ hob hbl (by omega) hq)
              have hvb := val_bd (((bitsOf_bit bs).drop (q + k)).take 2)
              rw [List.length_take, List.length_drop, Nat.min_eq_left (by omega)] at hvb
              obtain ⟨N, hN⟩ : ∃ N : Nat, val (((bitsOf bs).drop (q + k)).take 2) + 3 = (N : Int) := ⟨(val (((bitsOf bs).drop (q + k)).take 2) + 3).toNat, by omega⟩
              have HRUN : Hid (runG l acc (bitsOf bs) q = .ok (X, (N : Int)) (q + k + 2)) := Lib.hid (by unfold runG; rw [bindG_ok _ HS.out, if_pos rfl, decide_eq_false (by rw [HN.out]; exact h0), bindG_ok _ (refG_no 11 _ _), bindG_ok _ (numG_yes hq), hN, HRX.out]; rfl)
              generalize val (((bitsOf bs).drop (q + k)).take 2) = y at *
              have hyw : IntKind.i64.wrap (y + 3) = (N : Int) := by rw [IntKind.wrap_i64]; omega
              have hNb2 : N ≤ 200 := by omega
              have hN1b : 1 ≤ N := by omega
              have HJ := Lib.hid hj
              have H0 := Lib.hid h0
              clear hq hvb hN HS hj h0 y0
              go_wp2_with fail
              refine (GN.out _).mono ?_
              rintro e w5 ⟨rfl, hw5⟩
              have hw5' := hw5.symm
              clear hw5
              subst hw5'
              go_wp2_with fail
              refine wp_region_held_drew (S := (fun W' : World => W'.cell? ⟨ga, j, none⟩ = some (.int .u8 X))) (by kernel_rfl) Y0.out (fun hS => ?_)
              refine wpAnyH_take (i := 0) (oi := ⟨some 27, _, _, _, _, _⟩) (v := .slice (some ⟨ga, 0, none⟩) n c) rfl (by kernel_rfl) (by kernel_rfl) (by kernel_rfl) (fun _ _ _ h => h) (Or.inl ⟨by rfl, fun W hW => by go_simp⟩) hS ?_
              try simp only [Act.put, List.setIfInBounds_toArray, List.set_cons_zero, List.set_cons_succ]
              refine wpAnyH_take (i := 1) (oi := ⟨some 28, _, _, _, _, _⟩) (v := .slice (some ⟨ga, 0, none⟩) n c) rfl (by kernel_rfl) (by kernel_rfl) (by kernel_rfl) (fun _ _ _ h => h) (Or.inl ⟨by rfl, fun W hW => by go_simp⟩) hS ?_
              try simp only [Act.put, List.setIfInBounds_toArray, List.set_cons_zero, List.set_cons_succ]
              refine wpAnyH_take (i := 6) (oi := ⟨some 33, _, _, _, _, _⟩) (v := .pointer (some ⟨gp, 0, none⟩)) rfl (by kernel_rfl) (by kernel_rfl) (by kernel_rfl) (fun _ _ _ h => h) (Or.inl ⟨by rfl, fun W hW => by go_simp⟩) hS ?_
              try simp only [Act.put, List.setIfInBounds_toArray, List.set_cons_zero, List.set_cons_succ]
              refine wpAnyH_take (i := 2) (oi := ⟨some 29, _, _, _, _, _⟩) (v := .int .i64 (n : Int)) rfl (by kernel_rfl) (by kernel_rfl) (by kernel_rfl) (fun _ _ _ h => h) (Or.inl ⟨by rfl, fun W hW => by go_simp⟩) hS ?_
              try simp only [Act.put, List.setIfInBounds_toArray, List.set_cons_zero, List.set_cons_succ]
              refine wpAnyH_take (i := 3) (oi := ⟨some 30, _, _, _, _, _⟩) (v := .int .i64 (j : Int)) rfl (by kernel_rfl) (by kernel_rfl) (by kernel_rfl) (fun _ _ _ h => h) (Or.inl ⟨by rfl, fun W hW => by go_simp⟩) hS ?_
              try simp only [Act.put, List.setIfInBounds_toArray, List.set_cons_zero, List.set_cons_succ]
              refine wpAnyH_take (i := 4) (oi := ⟨some 31, _, _, _, _, _⟩) (v := .pointer (some ⟨ga, j, none⟩)) rfl (by kernel_rfl) (by kernel_rfl) (by kernel_rfl) (fun _ _ _ h => h) (Or.inl ⟨by rfl, fun W hW => by go_simp⟩) hS ?_
              try simp only [Act.put, List.setIfInBounds_toArray, List.set_cons_zero, List.set_cons_succ]
              refine wpAnyH_take (i := 5) (oi := ⟨some 32, _, _, _, _, _⟩) (v := .int .u8 X) rfl (by kernel_rfl) (by kernel_rfl) (by kernel_rfl) (fun _ _ _ h => h) (Or.inl ⟨by rfl, fun W hW => by have k1 : W.cell? ⟨ga, j, none⟩ = some (.int .u8 X) := hW; go_simp⟩) hS ?_
              try simp only [Act.put, List.setIfInBounds_toArray, List.set_cons_zero, List.set_cons_succ]
              refine wpAnyH_ready (rs := [7]) (by kernel_rfl) (by simp) ?_
              refine AllReadyH.cons rfl (fun K hK => ?_) AllReadyH.nil
              go_simp
              go_at_call 43
              refine GM.out.mono ?_
              rintro e w4 ⟨t4d, rfl, R4⟩
              have t4 : TurnsIn (· = g) w3 w4 := ⟨t4d.os, t4d.tape, t4d.output, t4d.size, t4d.block⟩
              have k4 : w4.cell? ⟨ga, j, none⟩ = some (.int .u8 X) := (World.cell?_of_block (w := w3) (a := ⟨ga, j, none⟩) (t4.block ga hga2 hgag)).trans Y0.out
              have T4 := Lib.hid (T3.out.trans t4)
              have R4h := Lib.hid R4
              have OW4 := Lib.hid (OW3.out.out t4 (fun b hb he => OW3.out.ne_block R3h.out.blk (by decide) (by rw [hb, he])))
              have hsz4 := t4.size
              clear t4
              refine hK.out _ _ k4 (fun hS => ?_)
              clear hK K
              try simp only [Act.put, List.setIfInBounds_toArray, List.set_cons_zero, List.set_cons_succ]
              refine wpAnyH_take (i := 8) (oi := ⟨some 35, _, _, _, _, _⟩) (v := .int .i64 (N : Int)) rfl (by kernel_rfl) (by kernel_rfl) (by kernel_rfl) (fun _ _ _ h => h) (Or.inl ⟨by rfl, fun W hW => by go_simp⟩) hS ?_
              try simp only [Act.put, List.setIfInBounds_toArray, List.set_cons_zero, List.set_cons_succ]
              refine wpAnyH_take (i := 9) (oi := ⟨some 9, _, _, _, _, _⟩) (v := .int .u8 X) rfl (by kernel_rfl) (by kernel_rfl) (by kernel_rfl) (fun _ _ _ h => h) (Or.inl ⟨by rfl, fun W hW => by go_simp⟩) hS ?_
              try simp only [Act.put, List.setIfInBounds_toArray, List.set_cons_zero, List.set_cons_succ]
              refine wpAnyH_take (i := 10) (oi := ⟨some 10, _, _, _, _, _⟩) (v := .int .i64 (N : Int)) rfl (by kernel_rfl) (by kernel_rfl) (by kernel_rfl) (fun _ _ _ h => h) (Or.inl ⟨by rfl, fun W hW => by go_simp⟩) hS ?_
              try simp only [Act.put, List.setIfInBounds_toArray, List.set_cons_zero, List.set_cons_succ]
              refine wpAnyH_done (by kernel_rfl) ?_ _
              go_upto_region 14 with (fail)
              have HRW := Lib.hid (hG.out.symm.trans (row_run HNM.out HRUN.out))
              by_cases cN : many < n + N
              · have HE := Lib.hid (HRW.out.trans (if_pos (by rw [HN.out]; exact cN)))
                have dN : decide ((many : Int) - (n : Int) < (N : Int)) = true := decide_eq_true (by omega)
                have hw1 : IntKind.i64.wrap ((many : Int) - (n : Int)) = (many : Int) - (n : Int) := by rw [IntKind.wrap_i64]; omega
                clear cN
                unfold brokenE at GY
                go_wp2_with fail
                refine (GY.out _).mono ?_
                rintro e w5 ⟨rfl, rfl⟩
                go_wp2_with fail
                exact ⟨rfl, RowTo.bad HE.out T4.out R4h.out⟩
              · have HE := Lib.hid (HRW.out.trans (if_neg (by rw [HN.out]; exact cN)))
                have dN : decide ((many : Int) - (n : Int) < (N : Int)) = false := decide_eq_false (by omega)
                have hw1 : IntKind.i64.wrap ((many : Int) - (n : Int)) = (many : Int) - (n : Int) := by rw [IntKind.wrap_i64]; omega
                have hNb : n + N ≤ many := by omega
                clear cN HRW
                go_wp2_with fail
                refine (GN.out _).mono ?_
                rintro e w5 ⟨rfl, hw5⟩
                have hw5' := hw5.symm
                clear hw5
                subst hw5'
                go_wp2_with fail
                go_loopw [7, 54] (fun x7 s wr => ∃ (i : Nat) (A' : Option Addr) (c' : Nat), i ≤ N ∧ s = .int .i64 i ∧ x7 = .slice A' (n + i) c' ∧ Own wr w.heap.size 5 .u8 (.slice A' (n + i) c') (acc ++ List.replicate i X) ∧ TurnsIn (fun b => w.heap.size ≤ b) w4 wr) (fun _ s _ => N - (intOf s).toNat)
                case atStart => exact ⟨0, _, c, Nat.zero_le _, rfl, rfl, by rw [List.replicate_zero, List.append_nil]; exact OW4.out, TurnsIn.refl _ _⟩
                case round =>
                  obtain ⟨i, A', c', hi, rfl, rfl, own, tq⟩ := hrel
                  by_cases hiN : i < N
                  · have d1 : decide ((i : Int) < (N : Int)) = true := decide_eq_true (by omega)
                    have d2 : decide (i < N) = true := decide_eq_true hiN
                    have hzq := tq.size
                    have TQ := Lib.hid tq
                    have hz : w.heap.size ≤ wr.heap.size := by omega
                    have hlN : (acc ++ List.replicate i X).length = n + i := by rw [List.length_append, List.length_replicate, HN.out]
                    have HLN := Lib.hid hlN
                    have hsm : (acc ++ List.replicate i X).length + 1 ≤ 1099511627776 := by omega
                    have HSM := Lib.hid hsm
                    have HIN := Lib.hid hiN
                    clear tq hiN hlN hsm
                    go_wp2_with (first | (have _t := own; at_builtin; refine wpList_append_one _ rfl (.tmp 56) (.tmp 58) 22 rfl elem8 own rfl rfl HSM.out hz ?_; clear _t; intro v' w6 o6 g6 b6; obtain ⟨A6, c6, rfl, _, _, _⟩ := o6.opened; have e6 : (acc ++ List.replicate i X ++ [X]).length = n + (i + 1) := (by rw [List.length_append, HLN.out]; rfl); have F6 := Lib.hid (And.intro o6 g6); have E6 := Lib.hid e6; clear o6 g6 e6))
                    go_roundw
                    case rel =>
                      have o7 := F6.out.1
                      rw [E6.out, List.append_assoc, ← List.replicate_succ'] at o7
                      exact ⟨i + 1, A6, c6, HIN.out, by go_num, by rw [HN.out], o7, (TQ.out.alloc _).trans (.ofGrown F6.out.2 fun b hb => (own.lt b hb).1)⟩
                    case measure =>
                      have hiN := HIN.out
                      simp [intOf] <;> omega
                  · obtain rfl : i = N := by omega
                    have t9 : TurnsIn (· = g) w wr := T4.out.then_ tq (fun b hb he => absurd he (by omega))
                    have R9 := rd_far R4h.out tq hgN HVN.out
                    have T9 := Lib.hid t9
                    have R9h := Lib.hid R9
                    have ho9 := Lib.hid (show Octets (acc ++ List.replicate i X) from Octets.append HOA.out (Octets.replicate (by omega) i))
                    have OW9 := Lib.hid own
                    have hl9 := Lib.hid (show (acc ++ List.replicate i X).length = n + i by rw [List.length_append, List.length_replicate, HN.out])
                    clear own tq t9 R9
                    go_wp2_with fail
                    go_roundw
                    case rel =>
                      have o9 := OW9.out
                      rw [← hl9.out] at o9
                      exact ⟨acc ++ List.replicate i X, A', c', _, f, by rw [hl9.out], o9, ho9.out, by rw [hl9.out]; omega, by rw [hl9.out]; omega, R9h.out, T9.out, Lib.hid HE.out.symm⟩
                    case measure => simp [lenV] <;> omega
            · have GM := Lib.hid (number_no 2 w3.drew (HP3.out.drewN 1) ⟨R3h.out.blk.drewN 1, R3h.out.own.drewN 1, R3h.out.le⟩ hob hbl (by omega) hq)
              have HE := Lib.hid (hG.out.symm.trans ((row_err HNM.out).1 (by unfold runG; rw [bindG_ok _ HS.out, if_pos rfl, decide_eq_false (by rw [HN.out]; exact h0), bindG_ok _ (refG_no 11 _ _)]; exact bindG_miss _ (numG_no hq))))
              have HJ := Lib.hid hj
              have H0 := Lib.hid h0
              clear hq HS hj h0 y0
              go_wp2_with fail
              refine (GN.out _).mono ?_
              rintro e w5 ⟨rfl, hw5⟩
              have hw5' := hw5.symm
              clear hw5
              subst hw5'
              go_wp2_with fail
              refine wp_region_held_drew (S := (fun W' : World => W'.cell? ⟨ga, j, none⟩ = some (.int .u8 X))) (by kernel_rfl) Y0.out (fun hS => ?_)
              refine wpAnyH_take (i := 0) (oi := ⟨some 27, _, _, _, _, _⟩) (v := .slice (some ⟨ga, 0, none⟩) n c) rfl (by kernel_rfl) (by kernel_rfl) (by kernel_rfl) (fun _ _ _ h => h) (Or.inl ⟨by rfl, fun W hW => by go_simp⟩) hS ?_
              try simp only [Act.put, List.setIfInBounds_toArray, List.set_cons_zero, List.set_cons_succ]
              refine wpAnyH_take (i := 1) (oi := ⟨some 28, _, _, _, _, _⟩) (v := .slice (some ⟨ga, 0, none⟩) n c) rfl (by kernel_rfl) (by kernel_rfl) (by kernel_rfl) (fun _ _ _ h => h) (Or.inl ⟨by rfl, fun W hW => by go_simp⟩) hS ?_
              try simp only [Act.put, List.setIfInBounds_toArray, List.set_cons_zero, List.set_cons_succ]
              refine wpAnyH_take (i := 6) (oi := ⟨some 33, _, _, _, _, _⟩) (v := .pointer (some ⟨gp, 0, none⟩)) rfl (by kernel_rfl) (by kernel_rfl) (by kernel_rfl) (fun _ _ _ h => h) (Or.inl ⟨by rfl, fun W hW => by go_simp⟩) hS ?_
              try simp only [Act.put, List.setIfInBounds_toArray, List.set_cons_zero, List.set_cons_succ]
              refine wpAnyH_take (i := 2) (oi := ⟨some 29, _, _, _, _, _⟩) (v := .int .i64 (n : Int)) rfl (by kernel_rfl) (by kernel_rfl) (by kernel_rfl) (fun _ _ _ h => h) (Or.inl ⟨by rfl, fun W hW => by go_simp⟩) hS ?_
              try simp only [Act.put, List.setIfInBounds_toArray, List.set_cons_zero, List.set_cons_succ]
              refine wpAnyH_take (i := 3) (oi := ⟨some 30, _, _, _, _, _⟩) (v := .int .i64 (j : Int)) rfl (by kernel_rfl) (by kernel_rfl) (by kernel_rfl) (fun _ _ _ h => h) (Or.inl ⟨by rfl, fun W hW => by go_simp⟩) hS ?_
              try simp only [Act.put, List.setIfInBounds_toArray, List.set_cons_zero, List.set_cons_succ]
              refine wpAnyH_take (i := 4) (oi := ⟨some 31, _, _, _, _, _⟩) (v := .pointer (some ⟨ga, j, none⟩)) rfl (by kernel_rfl) (by kernel_rfl) (by kernel_rfl) (fun _ _ _ h => h) (Or.inl ⟨by rfl, fun W hW => by go_simp⟩) hS ?_
              try simp only [Act.put, List.setIfInBounds_toArray, List.set_cons_zero, List.set_cons_succ]
              refine wpAnyH_take (i := 5) (oi := ⟨some 32, _, _, _, _, _⟩) (v := .int .u8 X) rfl (by kernel_rfl) (by kernel_rfl) (by kernel_rfl) (fun _ _ _ h => h) (Or.inl ⟨by rfl, fun W hW => by have k1 : W.cell? ⟨ga, j, none⟩ = some (.int .u8 X) := hW; go_simp⟩) hS ?_
              try simp only [Act.put, List.setIfInBounds_toArray, List.set_cons_zero, List.set_cons_succ]
              refine wpAnyH_ready (rs := [7]) (by kernel_rfl) (by simp) ?_
              refine AllReadyH.cons rfl (fun K hK => ?_) AllReadyH.nil
              go_simp
              go_at_call 43
              refine GM.out.mono ?_
              rintro e w4 ⟨t4d, rfl, R4⟩
              have t4 : TurnsIn (· = g) w3 w4 := ⟨t4d.os, t4d.tape, t4d.output, t4d.size, t4d.block⟩
              exact ⟨rfl, RowTo.miss HE.out (T3.out.trans t4) R4⟩
        by_cases c17 : s = 17
        · obtain rfl : s = 17 := c17
          by_cases hq : q + k + 3 ≤ (bitsOf bs).length
          · have GM := Lib.hid (number_yes 3 w3 HP3.out R3h.out hob hbl (by omega) hq)
            have hvb := val_bd (((bitsOf_bit bs).drop (q + k)).take 3)
            rw [List.length_take, List.length_drop, Nat.min_eq_left (by omega)] at hvb
            obtain ⟨N, hN⟩ : ∃ N : Nat, val (((bitsOf bs).drop (q + k)).take 3) + 3 = (N : Int) := ⟨(val (((bitsOf bs).drop (q + k)).take 3) + 3).toNat, by omega⟩
            have HRUN : Hid (runG l acc (bitsOf bs) q = .ok (0, (N : Int)) (q + k + 3)) := Lib.hid (by unfold runG; rw [bindG_ok _ HS.out, if_neg (by decide), if_pos rfl, bindG_ok _ (numG_yes hq), hN]; rfl)
            obtain ⟨X, hX⟩ : ∃ X : Int, X = 0 := ⟨0, rfl⟩
            rw [← hX] at HRUN
            have hXb : 0 ≤ X ∧ X ≤ 255 := by omega
            have HX := Lib.hid hX
            generalize val (((bitsOf bs).drop (q + k)).take 3) = y at *
            have hyw : IntKind.i64.wrap (y + 3) = (N : Int) := by rw [IntKind.wrap_i64]; omega
            have hNb2 : N ≤ 200 := by omega
            have hN1b : 1 ≤ N := by omega
            clear hq hvb hX hN HS
            go_wp2_with fail
            refine GM.out.mono ?_
            rintro e w4 ⟨t4, rfl, R4⟩
            have T4 := Lib.hid (T3.out.trans t4)
            have R4h := Lib.hid R4
            have OW4 := Lib.hid (OW3.out.out t4 (fun b hb he => OW3.out.ne_block R3h.out.blk (by decide) (by rw [hb, he])))
            have hsz4 := t4.size
            clear t4
            clear GM
            go_upto_region 14 with (fail)
            rw [← HX.out]
            have HRW := Lib.hid (hG.out.symm.trans (row_run HNM.out HRUN.out))
            by_cases cN : many < n + N
            · have HE := Lib.hid (HRW.out.trans (if_pos (by rw [HN.out]; exact cN)))
              have dN : decide ((many : Int) - (n : Int) < (N : Int)) = true := decide_eq_true (by omega)
              have hw1 : IntKind.i64.wrap ((many : Int) - (n : Int)) = (many : Int) - (n : Int) := by rw [IntKind.wrap_i64]; omega
              clear cN
              unfold brokenE at GY
              go_wp2_with fail
              refine (GY.out _).mono ?_
              rintro e w5 ⟨rfl, rfl⟩
              go_wp2_with fail
              exact ⟨rfl, RowTo.bad HE.out T4.out R4h.out⟩
            · have HE := Lib.hid (HRW.out.trans (if_neg (by rw [HN.out]; exact cN)))
              have dN : decide ((many : Int) - (n : Int) < (N : Int)) = false := decide_eq_false (by omega)
              have hw1 : IntKind.i64.wrap ((many : Int) - (n : Int)) = (many : Int) - (n : Int) := by rw [IntKind.wrap_i64]; omega
              have hNb : n + N ≤ many := by omega
              clear cN HRW
              go_wp2_with fail
              refine (GN.out _).mono ?_
              rintro e w5 ⟨rfl, hw5⟩
              have hw5' := hw5.symm
              clear hw5
              subst hw5'
              go_wp2_with fail
              go_loopw [7, 54] (fun x7 s wr => ∃ (i : Nat) (A' : Option Addr) (c' : Nat), i ≤ N ∧ s = .int .i64 i ∧ x7 = .slice A' (n + i) c' ∧ Own wr w.heap.size 5 .u8 (.slice A' (n + i) c') (acc ++ List.replicate i X) ∧ TurnsIn (fun b => w.heap.size ≤ b) w4 wr) (fun _ s _ => N - (intOf s).toNat)
              case atStart => exact ⟨0, _, c, Nat.zero_le _, rfl, rfl, by rw [List.replicate_zero, List.append_nil]; exact OW4.out, TurnsIn.refl _ _⟩
              case round =>
                obtain ⟨i, A', c', hi, rfl, rfl, own, tq⟩ := hrel
                by_cases hiN : i < N
                · have d1 : decide ((i : Int) < (N : Int)) = true := decide_eq_true (by omega)
                  have d2 : decide (i < N) = true := decide_eq_true hiN
                  have hzq := tq.size
                  have TQ := Lib.hid tq
                  have hz : w.heap.size ≤ wr.heap.size := by omega
                  have hlN : (acc ++ List.replicate i X).length = n + i := by rw [List.length_append, List.length_replicate, HN.out]
                  have HLN := Lib.hid hlN
                  have hsm : (acc ++ List.replicate i X).length + 1 ≤ 1099511627776 := by omega
                  have HSM := Lib.hid hsm
                  have HIN := Lib.hid hiN
                  clear tq hiN hlN hsm
                  go_wp2_with (first | (have _t := own; at_builtin; refine wpList_append_one _ rfl (.tmp 56) (.tmp 58) 22 rfl elem8 own rfl rfl HSM.out hz ?_; clear _t; intro v' w6 o6 g6 b6; obtain ⟨A6, c6, rfl, _, _, _⟩ := o6.opened; have e6 : (acc ++ List.replicate i X ++ [X]).length = n + (i + 1) := (by rw [List.length_append, HLN.out]; rfl); have F6 := Lib.hid (And.intro o6 g6); have E6 := Lib.hid e6; clear o6 g6 e6))
                  go_roundw
                  case rel =>
                    have o7 := F6.out.1
                    rw [E6.out, List.append_assoc, ← List.replicate_succ'] at o7
                    exact ⟨i + 1, A6, c6, HIN.out, by go_num, by rw [HN.out], o7, (TQ.out.alloc _).trans (.ofGrown F6.out.2 fun b hb => (own.lt b hb).1)⟩
                  case measure =>
                    have hiN := HIN.out
                    simp [intOf] <;> omega
                · obtain rfl : i = N := by omega
                  have t9 : TurnsIn (· = g) w wr := T4.out.then_ tq (fun b hb he => absurd he (by omega))
                  have R9 := rd_far R4h.out tq hgN HVN.out
                  have T9 := Lib.hid t9
                  have R9h := Lib.hid R9
                  have ho9 := Lib.hid (show Octets (acc ++ List.replicate i X) from Octets.append HOA.out (Octets.replicate (by omega) i))
                  have OW9 := Lib.hid own
                  have hl9 := Lib.hid (show (acc ++ List.replicate i X).length = n + i by rw [List.length_append, List.length_replicate, HN.out])
                  clear own tq t9 R9
                  go_wp2_with fail
                  go_roundw
                  case rel =>
                    have o9 := OW9.out
                    rw [← hl9.out] at o9
                    exact ⟨acc ++ List.replicate i X, A', c', _, f, by rw [hl9.out], o9, ho9.out, by rw [hl9.out]; omega, by rw [hl9.out]; omega, R9h.out, T9.out, Lib.hid HE.out.symm⟩
                  case measure => simp [lenV] <;> omega
          · have GM := Lib.hid (number_no 3 w3 HP3.out R3h.out hob hbl (by omega) hq)
            have HE := Lib.hid (hG.out.symm.trans ((row_err HNM.out).1 (by unfold runG; rw [bindG_ok _ HS.out]; rw [if_neg (by decide), if_pos rfl]; exact bindG_miss _ (numG_no hq))))
            go_wp2_with fail
            refine GM.out.mono ?_
            rintro e w4 ⟨t4, rfl, R4⟩
            go_wp2_with fail
            exact ⟨rfl, RowTo.miss HE.out (T3.out.trans t4) R4⟩
        by_cases c18 : s = 18
        · obtain rfl : s = 18 := c18
          by_cases hq : q + k + 7 ≤ (bitsOf bs).length
          · have GM := Lib.hid (number_yes 7 w3 HP3.out R3h.out hob hbl (by omega) hq)
            have hvb := val_bd (((bitsOf_bit bs).drop (q + k)).take 7)
            rw [List.length_take, List.length_drop, Nat.min_eq_left (by omega)] at hvb
            obtain ⟨N, hN⟩ : ∃ N : Nat, val (((bitsOf bs).drop (q + k)).take 7) + 11 = (N : Int) := ⟨(val (((bitsOf bs).drop (q + k)).take 7) + 11).toNat, by omega⟩
            have HRUN : Hid (runG l acc (bitsOf bs) q = .ok (0, (N : Int)) (q + k + 7)) := Lib.hid (by unfold runG; rw [bindG_ok _ HS.out, if_neg (by decide), if_neg (by decide), if_pos rfl, bindG_ok _ (numG_yes hq), hN]; rfl)
            obtain ⟨X, hX⟩ : ∃ X : Int, X = 0 := ⟨0, rfl⟩
            rw [← hX] at HRUN
            have hXb : 0 ≤ X ∧ X ≤ 255 := by omega
            have HX := Lib.hid hX
            generalize val (((bitsOf bs).drop (q + k)).take 7) = y at *
            have hyw : IntKind.i64.wrap (y + 11) = (N : Int) := by rw [IntKind.wrap_i64]; omega
            have hNb2 : N ≤ 200 := by omega
            have hN1b : 1 ≤ N := by omega
            clear hq hvb hX hN HS
            go_wp2_with fail
            refine GM.out.mono ?_
            rintro e w4 ⟨t4, rfl, R4⟩
            have T4 := Lib.hid (T3.out.trans t4)
            have R4h := Lib.hid R4
            have OW4 := Lib.hid (OW3.out.out t4 (fun b hb he => OW3.out.ne_block R3h.out.blk (by decide) (by rw [hb, he])))
            have hsz4 := t4.size
            clear t4
            clear GM
            go_upto_region 14 with (fail)
            rw [← HX.out]
            have HRW := Lib.hid (hG.out.symm.trans (row_run HNM.out HRUN.out))
            by_cases cN : many < n + N
            · have HE := Lib.hid (HRW.out.trans (if_pos (by rw [HN.out]; exact cN)))
              have dN : decide ((many : Int) - (n : Int) < (N : Int)) = true := decide_eq_true (by omega)
              have hw1 : IntKind.i64.wrap ((many : Int) - (n : Int)) = (many : Int) - (n : Int) := by rw [IntKind.wrap_i64]; omega
              clear cN
              unfold brokenE at GY
              go_wp2_with fail
              refine (GY.out _).mono ?_
              rintro e w5 ⟨rfl, rfl⟩
              go_wp2_with fail
              exact ⟨rfl, RowTo.bad HE.out T4.out R4h.out⟩
            · have HE := Lib.hid (HRW.out.trans (if_neg (by rw [HN.out]; exact cN)))
              have dN : decide ((many : Int) - (n : Int) < (N : Int)) = false := decide_eq_false (by omega)
              have hw1 : IntKind.i64.wrap ((many : Int) - (n : Int)) = (many : Int) - (n : Int) := by rw [IntKind.wrap_i64]; omega
              have hNb : n + N ≤ many := by omega
              clear cN HRW
              go_wp2_with fail
              refine (GN.out _).mono ?_
              rintro e w5 ⟨rfl, hw5⟩
              have hw5' := hw5.symm
              clear hw5
              subst hw5'
              go_wp2_with fail
              go_loopw [7, 54] (fun x7 s wr => ∃ (i : Nat) (A' : Option Addr) (c' : Nat), i ≤ N ∧ s = .int .i64 i ∧ x7 = .slice A' (n + i) c' ∧ Own wr w.heap.size 5 .u8 (.slice A' (n + i) c') (acc ++ List.replicate i X) ∧ TurnsIn (fun b => w.heap.size ≤ b) w4 wr) (fun _ s _ => N - (intOf s).toNat)
              case atStart => exact ⟨0, _, c, Nat.zero_le _, rfl, rfl, by rw [List.replicate_zero, List.append_nil]; exact OW4.out, TurnsIn.refl _ _⟩
              case round =>
                obtain ⟨i, A', c', hi, rfl, rfl, own, tq⟩ := hrel
                by_cases hiN : i < N
                · have d1 : decide ((i : Int) < (N : Int)) = true := decide_eq_true (by omega)
                  have d2 : decide (i < N) = true := decide_eq_true hiN
                  have hzq := tq.size
                  have TQ := Lib.hid tq
                  have hz : w.heap.size ≤ wr.heap.size := by omega
                  have hlN : (acc ++ List.replicate i X).length = n + i := by rw [List.length_append, List.length_replicate, HN.out]
                  have HLN := Lib.hid hlN
                  have hsm : (acc ++ List.replicate i X).length + 1 ≤ 1099511627776 := by omega
                  have HSM := Lib.hid hsm
                  have HIN := Lib.hid hiN
                  clear tq hiN hlN hsm
                  go_wp2_with (first | (have _t := own; at_builtin; refine wpList_append_one _ rfl (.tmp 56) (.tmp 58) 22 rfl elem8 own rfl rfl HSM.out hz ?_; clear _t; intro v' w6 o6 g6 b6; obtain ⟨A6, c6, rfl, _, _, _⟩ := o6.opened; have e6 : (acc ++ List.replicate i X ++ [X]).length = n + (i + 1) := (by rw [List.length_append, HLN.out]; rfl); have F6 := Lib.hid (And.intro o6 g6); have E6 := Lib.hid e6; clear o6 g6 e6))
                  go_roundw
                  case rel =>
                    have o7 := F6.out.1
                    rw [E6.out, List.append_assoc, ← List.replicate_succ'] at o7
                    exact ⟨i + 1, A6, c6, HIN.out, by go_num, by rw [HN.out], o7, (TQ.out.alloc _).trans (.ofGrown F6.out.2 fun b hb => (own.lt b hb).1)⟩
                  case measure =>
                    have hiN := HIN.out
                    simp [intOf] <;> omega
                · obtain rfl : i = N := by omega
                  have t9 : TurnsIn (· = g) w wr := T4.out.then_ tq (fun b hb he => absurd he (by omega))
                  have R9 := rd_far R4h.out tq hgN HVN.out
                  have T9 := Lib.hid t9
                  have R9h := Lib.hid R9
                  have ho9 := Lib.hid (show Octets (acc ++ List.replicate i X) from Octets.append HOA.out (Octets.replicate (by omega) i))
                  have OW9 := Lib.hid own
                  have hl9 := Lib.hid (show (acc ++ List.replicate i X).length = n + i by rw [List.length_append, List.length_replicate, HN.out])
                  clear own tq t9 R9
                  go_wp2_with fail
                  go_roundw
                  case rel =>
                    have o9 := OW9.out
                    rw [← hl9.out] at o9
                    exact ⟨acc ++ List.replicate i X, A', c', _, f, by rw [hl9.out], o9, ho9.out, by rw [hl9.out]; omega, by rw [hl9.out]; omega, R9h.out, T9.out, Lib.hid HE.out.symm⟩
                  case measure => simp [lenV] <;> omega
          · have GM := Lib.hid (number_no 7 w3 HP3.out R3h.out hob hbl (by omega) hq)
            have HE := Lib.hid (hG.out.symm.trans ((row_err HNM.out).1 (by unfold runG; rw [bindG_ok _ HS.out]; rw [if_neg (by decide), if_neg (by decide), if_pos rfl]; exact bindG_miss _ (numG_no hq))))
            go_wp2_with fail
            refine GM.out.mono ?_
            rintro e w4 ⟨t4, rfl, R4⟩
            go_wp2_with fail
            exact ⟨rfl, RowTo.miss HE.out (T3.out.trans t4) R4⟩
        · have e16 : (s == 16) = false := by rw [beq_eq_false_iff_ne]; exact c16
          have e17 : (s == 17) = false := by rw [beq_eq_false_iff_ne]; exact c17
          have e18 : (s == 18) = false := by rw [beq_eq_false_iff_ne]; exact c18
          have HRUN : Hid (runG l acc (bitsOf bs) q = .ok (s, ((1 : Nat) : Int)) (q + k)) := Lib.hid (by unfold runG; rw [bindG_ok _ HS.out, if_neg c16, if_neg c17, if_neg c18]; rfl)
          obtain ⟨X, hX⟩ : ∃ X : Int, X = s := ⟨s, rfl⟩
          have hXb : 0 ≤ X ∧ X ≤ 255 := by omega
          have hsw : IntKind.u8.wrap s = X := by rw [IntKind.wrap_u8]; omega
          rw [← hX] at HRUN
          obtain ⟨N, hN⟩ : ∃ N : Nat, N = 1 := ⟨1, rfl⟩
          rw [← hN] at HRUN
          have hNb2 : N ≤ 200 := by omega
          have hN1b : 1 ≤ N := by omega
          have hN1 : (1 : Int) = (N : Int) := by omega
          have HN1 := Lib.hid hN1
          obtain ⟨w4, hw4⟩ : ∃ w4, w4 = w3 := ⟨w3, rfl⟩
          have T4 := T3
          have R4h := R3h
          have OW4 := OW3
          have hsz4 : w3.heap.size ≤ w4.heap.size := by rw [hw4]; omega
          rw [← hw4] at T4 R4h OW4
          have HW4 := Lib.hid hw4
          clear c16 c17 c18 hX hN HS hw4 hN1
          go_upto_region 14 with (fail)
          rw [HN1.out, ← HW4.out]
          have HRW := Lib.hid (hG.out.symm.trans (row_run HNM.out HRUN.out))
          by_cases cN : many < n + N
          · have HE := Lib.hid (HRW.out.trans (if_pos (by rw [HN.out]; exact cN)))
            have dN : decide ((many : Int) - (n : Int) < (N : Int)) = true := decide_eq_true (by omega)
            have hw1 : IntKind.i64.wrap ((many : Int) - (n : Int)) = (many : Int) - (n : Int) := by rw [IntKind.wrap_i64]; omega
            clear cN
            unfold brokenE at GY
            go_wp2_with fail
            refine (GY.out _).mono ?_
            rintro e w5 ⟨rfl, rfl⟩
            go_wp2_with fail
            exact ⟨rfl, RowTo.bad HE.out T4.out R4h.out⟩
          · have HE := Lib.hid (HRW.out.trans (if_neg (by rw [HN.out]; exact cN)))
            have dN : decide ((many : Int) - (n : Int) < (N : Int)) = false := decide_eq_false (by omega)
            have hw1 : IntKind.i64.wrap ((many : Int) - (n : Int)) = (many : Int) - (n : Int) := by rw [IntKind.wrap_i64]; omega
            have hNb : n + N ≤ many := by omega
            clear cN HRW
            go_wp2_with fail
            refine (GN.out _).mono ?_
            rintro e w5 ⟨rfl, hw5⟩
            have hw5' := hw5.symm
            clear hw5
            subst hw5'
            go_wp2_with fail
            go_loopw [7, 54] (fun x7 s wr => ∃ (i : Nat) (A' : Option Addr) (c' : Nat), i ≤ N ∧ s = .int .i64 i ∧ x7 = .slice A' (n + i) c' ∧ Own wr w.heap.size 5 .u8 (.slice A' (n + i) c') (acc ++ List.replicate i X) ∧ TurnsIn (fun b => w.heap.size ≤ b) w4 wr) (fun _ s _ => N - (intOf s).toNat)
            case atStart => exact ⟨0, _, c, Nat.zero_le _, rfl, rfl, by rw [List.replicate_zero, List.append_nil]; exact OW4.out, TurnsIn.refl _ _⟩
            case round =>
              obtain ⟨i, A', c', hi, rfl, rfl, own, tq⟩ := hrel
              by_cases hiN : i < N
              · have d1 : decide ((i : Int) < (N : Int)) = true := decide_eq_true (by omega)
                have d2 : decide (i < N) = true := decide_eq_true hiN
                have hzq := tq.size
                have TQ := Lib.hid tq
                have hz : w.heap.size ≤ wr.heap.size := by omega
                have hlN : (acc ++ List.replicate i X).length = n + i := by rw [List.length_append, List.length_replicate, HN.out]
                have HLN := Lib.hid hlN
                have hsm : (acc ++ List.replicate i X).length + 1 ≤ 1099511627776 := by omega
                have HSM := Lib.hid hsm
                have HIN := Lib.hid hiN
                clear tq hiN hlN hsm
                go_wp2_with (first | (have _t := own; at_builtin; refine wpList_append_one _ rfl (.tmp 56) (.tmp 58) 22 rfl elem8 own rfl rfl HSM.out hz ?_; clear _t; intro v' w6 o6 g6 b6; obtain ⟨A6, c6, rfl, _, _, _⟩ := o6.opened; have e6 : (acc ++ List.replicate i X ++ [X]).length = n + (i + 1) := (by rw [List.length_append, HLN.out]; rfl); have F6 := Lib.hid (And.intro o6 g6); have E6 := Lib.hid e6; clear o6 g6 e6))
                go_roundw
                case rel =>
                  have o7 := F6.out.1
                  rw [E6.out, List.append_assoc, ← List.replicate_succ'] at o7
                  exact ⟨i + 1, A6, c6, HIN.out, by go_num, by rw [HN.out], o7, (TQ.out.alloc _).trans (.ofGrown F6.out.2 fun b hb => (own.lt b hb).1)⟩
                case measure =>
                  have hiN := HIN.out
                  simp [intOf] <;> omega
              · obtain rfl : i = N := by omega
                have t9 : TurnsIn (· = g) w wr := T4.out.then_ tq (fun b hb he => absurd he (by omega))
                have R9 := rd_far R4h.out tq hgN HVN.out
                have T9 := Lib.hid t9
                have R9h := Lib.hid R9
                have ho9 := Lib.hid (show Octets (acc ++ List.replicate i X) from Octets.append HOA.out (Octets.replicate (by omega) i))
                have OW9 := Lib.hid own
                have hl9 := Lib.hid (show (acc ++ List.replicate i X).length = n + i by rw [List.length_append, List.length_replicate, HN.out])
                clear own tq t9 R9
                go_wp2_with fail
                go_roundw
                case rel =>
                  have o9 := OW9.out
                  rw [← hl9.out] at o9
                  exact ⟨acc ++ List.replicate i X, A', c', _, f, by rw [hl9.out], o9, ho9.out, by rw [hl9.out]; omega, by rw [hl9.out]; omega, R9h.out, T9.out, Lib.hid HE.out.symm⟩
                case measure => simp [lenV] <;> omega
    · obtain rfl : n = many := by omega
      have HRR := Lib.hid (show r = .ok acc q from hG.out.symm.trans (row_done (by rw [HN.out]; omega)))
      go_wp2_with fail
      go_ret
      rw [HRR.out]
      have o9 := OW.out
      rw [← HN.out] at o9 ⊢
      exact ⟨T2.out, R2, A, c, rfl, o9⟩
end Go.Proofs.YthflefdchgpbdaaDoor.Inf
