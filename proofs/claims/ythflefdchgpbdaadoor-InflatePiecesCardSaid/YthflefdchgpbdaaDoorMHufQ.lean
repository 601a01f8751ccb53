/-
  Layer 9, huff: Next. Conditions: as each theorem names.
-/
import Derived.Test.YthflefdchgpbdaaDoorMGIces10
import Derived.Deep.LoopGhost
namespace Go.Proofs.YthflefdchgpbdaaDoor.Huf
open Go.ChangeShapes Go.WideShapes Go.ChangeAt Go.RowKit Go.Proofs.YthflefdchgpbdaaDoor.Kit Go.Proofs.YthflefdchgpbdaaDoor.Bits

/-- What Next leaves: the answer, and how many bits it took. -/
def NextLeaves (B g : Nat) (v : Value) (bs : List Int) (p : Nat) (t : Told) (w : World) (e : Ending) (w' : World) : Prop :=
  TurnsIn (· = g) w w' ∧ match t with
  | .sym s n => e = .returned (.tuple #[.int .i64 s, .int .i64 0]) ∧ Rd w' B g v bs (p + n)
  | .short => e = .returned (.tuple #[.int .i64 0, .int .i64 2]) ∧ Rd w' B g v bs p
  | .form => e = .returned (.tuple #[.int .i64 0, .int .i64 3]) ∧ Rd w' B g v bs p

theorem Tb.out {S : Nat → Prop} {w w' : World} {B g : Nat} {v : Value} {l : List Int} {n : Nat} {ss : List Int} (h : Tb w B g v l n ss) (ho : TurnsIn S w w') (hg : ¬ S g) (hv : ∀ b, v.ownBlock = some b → ¬ S b) : Tb w' B g v l n ss := ⟨h.blk.out ho hg, h.own.out ho hv⟩

set_option maxRecDepth 100000 in
set_option maxHeartbeats 6400000 in
theorem next_any (B g gt B' : Nat) (v vt : Value) (bs l : List Int) (p : Nat) (w : World) (hl : l.length ≤ 300) (hM : mayB l = true) (ho : Octets l) (R : Rd w B g v bs p) (hob : Octets bs) (hbl : bs.length ≤ 1000000) (tb : Tb w B' gt vt l 15 (syms l 15)) :
    Calls Tryd.prog 63 #[.pointer (some ⟨gt, 0, none⟩), .pointer (some ⟨g, 0, none⟩)] w (NextLeaves B g v bs p (told l ((bitsOf bs).drop p)) w) := by
  have hne : gt ≠ g := by
    intro he
    subst he
    have h1 := tb.blk
    have h2 := R.blk
    unfold Block at h1 h2
    rw [h1] at h2
    injection h2 with h2
    injection h2 with h3 h4
    exact absurd h4 (by decide)
  have hng : ∀ b, vt.ownBlock = some b → ¬ b = g := fun b hb he => tb.own.ne_block R.blk (by decide) (he ▸ hb)
  have hsyl := syms_length l 15
  have hsyl2 : (syms l 15).length ≤ 4500 := Nat.le_trans hsyl (Nat.le_trans (Nat.mul_le_mul_right 15 hl) (by omega))
  have hmost := most_le l 15
  have hp := R.le
  have hcl := Lib.hid (cnts_length l)
  have hD : Hid (∃ D, told l ((bitsOf bs).drop p) = D) := Lib.hid ⟨_, rfl⟩
  have HT : Hid (go l 16 1 0 ((bitsOf bs).drop p) = told l ((bitsOf bs).drop p)) := Lib.hid rfl
  generalize told l ((bitsOf bs).drop p) = D at *
  clear hsyl hD
  go_enter Tryd.func63, Tryd.ntmps63
  go_wp2_with fail
  refine (at_any B g v bs p w R).mono ?_
  rintro e w1 ⟨rfl, rfl⟩
  go_wp2_with fail
  go_loopg [7, 8, 9, 10] 17 (fun gk x7 x8 x9 s wr => ∃ k : Nat, gk = 17 - k ∧ k ≤ 15 ∧ p + k ≤ 8 * bs.length ∧ s = .int .i64 ((k + 1 : Nat) : Int) ∧ x7 = .int .i64 (mv (((bitsOf bs).drop p).take k)) ∧ x8 = .int .i64 (fc l (k + 1)) ∧ x9 = .int .i64 (ahead l (k + 1)) ∧
    Rd wr B g v bs (p + k) ∧ TurnsIn (· = g) w wr ∧ Hid (go l (16 - k) (k + 1) (mv (((bitsOf bs).drop p).take k)) (((bitsOf bs).drop p).drop k) = D ∧ fc l (k + 1) ≤ 2 * mv (((bitsOf bs).drop p).take k)))
  case atStart => exact ⟨0, rfl, by omega, by omega, rfl, rfl, rfl, rfl, R, TurnsIn.refl _ _, Lib.hid ⟨HT.out, by simp [fc, mv]⟩⟩
  case round =>
    obtain ⟨k, hgk, hk15, hpk, rfl, rfl, rfl, rfl, R2, t2, hG⟩ := hrel
    have tb2 := tb.out t2 hne hng
    have c16 : wr.cell? ⟨gt, 16, none⟩ = some (.int .i64 (mostOf l 15)) := by rw [tb2.blk.cell, tcells_16 hcl.out]
    have hgo := hG.out.1
    rw [show 16 - k = (15 - k) + 1 by omega, go_succ] at hgo
    have hge := hG.out.2
    have hFn := fc_next l k
    have hAn := ahead_next l (k + 1) (by omega)
    clear hG
    generalize hnk : k + 1 = n at *
    by_cases hmo : mostOf l 15 < (n : Int)
    · rw [if_pos hmo] at hgo
      have d0 : decide ((n : Int) ≤ mostOf l 15) = false := decide_eq_false (by omega)
      have Hgo := Lib.hid hgo
      clear hgo hge hFn hAn
      go_wp2_with fail
      refine (seek_yes B g v bs (p + k) p wr R2 hbl (by omega)).mono ?_
      rintro e w3 ⟨rfl, R3, t3⟩
      go_wp2_with fail
      go_ret2
      refine ⟨t2.trans t3, ?_⟩
      rw [← Hgo.out]
      exact ⟨rfl, R3⟩
    · rw [if_neg hmo] at hgo
      have d1 : decide ((n : Int) ≤ mostOf l 15) = true := decide_eq_true (by omega)
      have hn15 : n ≤ 15 := by omega
      have hbL := bitsOf_length bs
      by_cases hsh : p + k = 8 * bs.length
      · have hnil : ((bitsOf bs).drop p).drop k = [] := by rw [List.drop_drop]; exact List.drop_eq_nil_of_le (by omega)
        rw [hnil] at hgo
        have Hgo := Lib.hid hgo
        have Gs := Lib.hid (get_short B g v bs (p + k) 1 wr R2 hbl (by omega) (by omega))
        clear hgo hge hmo hnil hbL hFn hAn
        go_wp2_with fail
        refine Gs.out.mono ?_
        rintro e w2 ⟨rfl, hb2⟩
        have R3 := R2.below hb2
        go_wp2_with fail
        refine (seek_yes B g v bs (p + k) p w2 R3 hbl (by omega)).mono ?_
        rintro e w3 ⟨rfl, R4, t4⟩
        go_wp2_with fail
        go_ret2
        refine ⟨(t2.trans (TurnsIn.ofNew hb2)).trans t4, ?_⟩
        rw [← Hgo.out]
        exact ⟨rfl, R4⟩
      · obtain ⟨b, hb0, hb1, hcons, hv1, hmv⟩ := bit_step (bitsOf_bit bs) (p := p) (k := k) (by omega)
        have Gg := get_ok B g v bs (p + k) 1 wr R2 hob hbl (by omega) (by omega)
        have hcb := mv_small (bitsOf_bit bs) p (k := k) (by omega)
        have hF := fc_15 l hl n hn15
        have hK := cnt_bd l (n : Int)
        have hA := ahead_bd l hsyl2 k (by omega)
        have hge2 : fc l n ≤ 2 * mv (((bitsOf bs).drop p).take k) + b := by omega
        have hpl := fun hc => place_ok (l := l) n (by omega) hn15 (2 * mv (((bitsOf bs).drop p).take k) + b) hge2 hc
        have cK : ∀ w', Block w' gt 108 (tcells (cnts l) (mostOf l 15) vt) → w'.cell? ⟨gt, n, none⟩ = some (.int .i64 (cnt l (n : Int))) := by
          intro w' hB
          rw [hB.cell, tcells_get hcl.out _ _ _ (by omega), cnts_get l _ (by omega), if_neg (by omega)]
        rw [hcons] at hgo
        rw [hv1] at Gg
        rw [hnk] at hA hmv hcons hgo
        replace hgo : (if 2 * mv (((bitsOf bs).drop p).take k) + b - fc l n < cnt l (n : Int) then Told.sym ((syms l 15)[(ahead l n + (2 * mv (((bitsOf bs).drop p).take k) + b) - fc l n).toNat]?.getD 0) n else go l (15 - k) (n + 1) (2 * mv (((bitsOf bs).drop p).take k) + b) (((bitsOf bs).drop p).drop n)) = D := hgo
        have hps : p + n ≤ 8 * bs.length := by omega
        have HC := Lib.hid (And.intro hgo (And.intro hmv (And.intro hFn (And.intro hAn hpl))))
        have Gh := Lib.hid Gg
        clear hgo hmv hFn hAn hpl Gg hv1 hcons hmo hsh hbL hge
        generalize mv (((bitsOf bs).drop p).take k) = c at *
        generalize fc l n = F at *
        generalize cnt l (n : Int) = K at *
        generalize ahead l n = H at *
        go_wp2_with fail
        refine Gh.out.mono ?_
        rintro e w3 ⟨rfl, R3, t3⟩
        have tb3 := tb2.out t3 hne hng
        have c3 := cK _ tb3.blk
        clear cK Gh
        obtain ⟨hgo, hmv, hFn, hAn, hpl⟩ := HC.out
        clear HC
        by_cases hc : 2 * c + b - F < K
        · rw [if_pos hc] at hgo
          obtain ⟨hp0, hpL⟩ := hpl hc
          obtain ⟨i, hi⟩ := Int.eq_ofNat_of_zero_le hp0
          rw [hi, Int.toNat_natCast] at hpL hgo
          clear hmv hFn hAn hpl hp0
          obtain ⟨A, cap, rfl, _, _, hrow⟩ := tb3.own.opened
          obtain ⟨bb, off, rfl, hbb, hcell⟩ := hrow (by omega)
          have hci := hcell i hpL
          have c17 : w3.cell? ⟨gt, 17, none⟩ = some (.slice (some ⟨bb, off, none⟩) (syms l 15).length cap) := by rw [tb3.blk.cell, tcells_17 hcl.out]
          have hx : (syms l 15).getD i 0 = (syms l 15)[i]?.getD 0 := by simp [List.getD]
          have hxb := syms_bd l hl i
          rw [hx] at hci
          have HT3 := Lib.hid t3
          have HT2 := Lib.hid t2
          have HR3 := Lib.hid R3
          clear hx hcell hrow tb2 tb3 tb R2 R t2 t3 R3 hng
          have Hgo := Lib.hid hgo
          generalize (syms l 15)[i]?.getD 0 = x at *
          have hiL : (i : Int) < ((syms l 15).length : Int) := by omega
          have hi0 : (0 : Int) ≤ (i : Int) := by omega
          have Hnk := Lib.hid hnk
          have dE : decide (2 * c + b - F < K) = true := decide_eq_true hc
          clear hnk hge2 hmost hcl HT hgo hp hc
          go_wp2_with fail
          go_ret2
          refine ⟨HT2.out.trans HT3.out, ?_⟩
          rw [← Hgo.out]
          exact ⟨rfl, by rw [← Hnk.out]; exact HR3.out⟩
        · rw [if_neg hc] at hgo
          have dE : decide (2 * c + b - F < K) = false := decide_eq_false hc
          have HH := Lib.hid (And.intro hgo (And.intro hmv (And.intro hFn (And.intro hAn (And.intro hnk (And.intro hc t3))))))
          have HR3 := Lib.hid R3
          have HT2 := Lib.hid t2
          clear hgo hmv hFn hAn hpl hnk hge2 hmost HT hp hc hng tb R2 R tb2 t2 t3 tb3 R3 hcl hne
          go_wp2_with fail
          obtain ⟨hgo, hmv, hFn, hAn, hnk, hc, t3⟩ := HH.out
          go_roundg (17 - n)
          case measure => omega
          case rel => exact ⟨n, rfl, by omega, by omega, by go_num, by rw [hmv], by rw [hFn], by rw [hAn], by rw [← hnk]; exact HR3.out, HT2.out.trans t3, Lib.hid ⟨by rw [hmv, show 16 - n = 15 - k by omega]; exact hgo, by rw [hmv, hFn]; omega⟩⟩
end Go.Proofs.YthflefdchgpbdaaDoor.Huf
