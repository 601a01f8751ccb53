/-
  Layer 13, inflate: a piece is read: the program's contract. Conditions: the table of turns holds what the program's text lays; and as each theorem names.
-/
import Derived.Test.YthflefdchgpbdaaDoorMInN
namespace Go.Proofs.YthflefdchgpbdaaDoor.Inf
open Go.ChangeShapes Go.WideShapes Go.ChangeAt Go.RowKit Go.Proofs.YthflefdchgpbdaaDoor.Kit Go.Proofs.YthflefdchgpbdaaDoor.Bits Go.Proofs.YthflefdchgpbdaaDoor.Huf Go.Proofs.YthflefdchgpbdaaDoor.Df

def errI (e0 : Int) : Int := if e0 = 2 then 0 else e0
def restL (b : List Int) (s : St) (p : Nat) (e0 : Int) : List Int := if e0 = 0 ∨ e0 = 2 then b.drop (doneP s p / 8) else []
def skipI (s : St) (p : Nat) (e0 : Int) : Int := if e0 = 0 ∨ e0 = 2 then ((doneP s p % 8 : Nat) : Int) else 0
def icE (most : Int) (s : St) (p : Nat) (e0 : Int) (vr vs vd : Value) : Ic := ⟨most, vr, skipI s p e0, s.ph, s.last, s.left, vs, vd, errI e0⟩
/-- An inflater to which bytes b came: it stands at s, behind p bits, and tells e0. -/
structure Infl (w : World) (B x : Nat) (most : Int) (b : List Int) (s : St) (p : Nat) (e0 : Int) (vr vs vd : Value) (A : Option Addr) (c : Nat) : Prop where
  st : Stands most b s p e0
  ia : IAt w B x (icE most s p e0 vr vs vd) s.out A c
  or_ : Own w B 5 .u8 vr (restL b s p e0)
  os : Own w B 5 .u8 vs s.ls
  od : Own w B 5 .u8 vd s.ds
  ap : ∀ g, (Value.slice A s.out.length c).ownBlock = some g → vs.ownBlock ≠ some g ∧ vd.ownBlock ≠ some g
  cp : capV vs ≤ 288 ∧ capV vd ≤ 32
  cr : capV vr ≤ 901
def WriteTo (B x : Nat) (most : Int) (b : List Int) (s : St) (vr vs vd : Value) (A : Option Addr) (c : Nat) (w : World) (e : Ending) (w' : World) : Prop :=
  ∃ s' p' e0' vr' vs' vd' A' c', e = .returned (.int .i64 (errI e0')) ∧ Infl w' B x most b s' p' e0' vr' vs' vd' A' c' ∧ TurnsIn (fun g => g = x ∨ (Value.slice A s.out.length c).ownBlock = some g) w w' ∧ (Newer w (.slice A s.out.length c) (.slice A' s'.out.length c') ∧ Newer w vs vs' ∧ Newer w vd vd' ∧ Newer w vr vr')
theorem restL_ok {b : List Int} {s : St} {p : Nat} {e0 : Int} (h : e0 = 0 ∨ e0 = 2) : restL b s p e0 = b.drop (doneP s p / 8) := by unfold restL; rw [if_pos h]
theorem restL_no {b : List Int} {s : St} {p : Nat} {e0 : Int} (h : ¬ (e0 = 0 ∨ e0 = 2)) : restL b s p e0 = [] := by unfold restL; rw [if_neg h]
theorem skipI_ok {s : St} {p : Nat} {e0 : Int} (h : e0 = 0 ∨ e0 = 2) : skipI s p e0 = ((doneP s p % 8 : Nat) : Int) := by unfold skipI; rw [if_pos h]
theorem skipI_no {s : St} {p : Nat} {e0 : Int} (h : ¬ (e0 = 0 ∨ e0 = 2)) : skipI s p e0 = 0 := by unfold skipI; rw [if_neg h]
theorem errI_ok {e0 : Int} (h : e0 = 0 ∨ e0 = 2) : errI e0 = 0 := by unfold errI; split <;> omega
theorem errI_no {e0 : Int} (h : ¬ (e0 = 0 ∨ e0 = 2)) : errI e0 = e0 ∧ errI e0 ≠ 0 := by
  unfold errI
  rw [if_neg (by omega)]
  exact ⟨rfl, by omega⟩
theorem err_bd {most : Int} {b : List Int} {s : St} {p : Nat} {e0 : Int} (h : Stands most b s p e0) : 0 ≤ e0 ∧ e0 ≤ 12 := by
  have := h.ends.errs
  omega
/-- More came behind an error. -/
theorem Infl.more {w : World} {B x : Nat} {most : Int} {b zs : List Int} {s : St} {p : Nat} {e0 : Int} {vr vs vd : Value} {A : Option Addr} {c : Nat} (h : Infl w B x most b s p e0 vr vs vd A c) (hm : 0 ≤ most) (he : ¬ (e0 = 0 ∨ e0 = 2)) : Infl w B x most (b ++ zs) s p e0 vr vs vd A c :=
  ⟨h.st.stays zs hm (fun e => he (.inl e)) (fun e => he (.inr e)), h.ia, by have := h.or_; rw [restL_no he] at this ⊢; exact this, h.os, h.od, h.ap, h.cp, h.cr⟩

theorem own_x {w w' : World} {x : Nat} {cs : Array Value} (hx : Block w x 40 cs) (t : TurnsIn (· = x) w w') {B1 : Nat} {o : Value} {xs : List Int} (ho : Own w B1 5 .u8 o xs) : Own w' B1 5 .u8 o xs := ho.out t (fun b hb he => ho.ne_block hx (by decide) (by rw [hb, he]))
theorem rd_x {w w' : World} {x : Nat} {cs : Array Value} (hx : Block w x 40 cs) (t : TurnsIn (· = x) w w') {B1 g p : Nat} {v : Value} {bs : List Int} (R : Rd w B1 g v bs p) : Rd w' B1 g v bs p := ⟨R.blk.out t (Block.ne_of R.blk hx (by decide)), own_x hx t R.own, R.le⟩

set_option maxRecDepth 100000 in
set_option maxHeartbeats 12800000 in
theorem write_any (B x : Nat) (most : Int) (b zs : List Int) (s : St) (p : Nat) (e0 : Int) (vr vs vd : Value) (A : Option Addr) (c : Nat) (Az : Option Addr) (cz : Nat) (w : World) (h : Infl w B x most b s p e0 vr vs vd A c) (hz : Holds w w.heap.size .u8 Az zs) (hob : Octets b) (hoz : Octets zs) (hbl : b.length ≤ 900000) (hzl : zs.length ≤ 90000) (hB : B ≤ w.heap.size) (hm : 0 ≤ most ∧ most ≤ 1000000) (hL : Laid 0 turnsL w) (hGB : 0 < B) :
    Calls Tryd.prog 12 #[.pointer (some ⟨x, 0, none⟩), .slice Az zs.length cz] w (WriteTo B x most (b ++ zs) s vr vs vd A c w) := by
  by_cases he : e0 = 0 ∨ e0 = 2
  · have hst := h.st
    have hle := hst.le hm.1
    have hfew := hst.few hm.1 he
    have hb12 := err_bd hst
    obtain ⟨hso, hp8, hd8⟩ := hle
    obtain ⟨dn, hdn⟩ : ∃ dn, doneP s p = dn := ⟨_, rfl⟩
    rw [hdn] at hd8 hfew
    obtain ⟨rs, hrs⟩ : ∃ rs, b.drop (dn / 8) = rs := ⟨_, rfl⟩
    have hrl : rs.length = b.length - dn / 8 := by rw [← hrs, List.length_drop]
    have hro : Octets rs := by rw [← hrs]; exact hob.tail _
    have ho1 := h.or_
    rw [restL_ok he, hdn, hrs] at ho1
    obtain ⟨Ar, cr, hvr, hcr1, hcr2, hhr⟩ := ho1.opened
    obtain ⟨sk, hsk⟩ : ∃ sk, dn % 8 = sk := ⟨_, rfl⟩
    have hsk8 : sk < 8 := by omega
    have hic : icE most s p e0 vr vs vd = ⟨most, vr, (sk : Int), s.ph, s.last, s.left, vs, vd, 0⟩ := by
      unfold icE
      rw [skipI_ok he, errI_ok he, hdn, hsk]
    have hia := h.ia
    rw [hic] at hia
    have x9 : w.cell? ⟨x, 9, none⟩ = some (.int .i64 0) := hia.blk.cell 9
    have x2 : w.cell? ⟨x, 2, none⟩ = some (.slice Ar rs.length cr) := by rw [← hvr]; exact hia.blk.cell 2
    have hxl := hia.blk.lt
    have hso2 : SOk most s sk := ⟨hso.ph, hso.len, hso.oct, fun e => by
      have h1 := hso.left e
      have h2 : dn = p := by rw [← hdn]; unfold doneP; rw [if_neg (by omega)]
      exact ⟨h1.1, h1.2.1, by omega⟩, hso.codes, hso.lists, hso.none⟩
    have hskl : sk ≤ 8 * (rs ++ zs).length := by rw [List.length_append]; omega
    have hall : (rs ++ zs).length ≤ 990000 := by rw [List.length_append]; omega
    have hrb : rs.length ≤ 900000 := by omega
    have HRL := Lib.hid hrl
    have HH := Lib.hid h
    have HIA := Lib.hid hia
    have HSO := Lib.hid hso2
    have HST := Lib.hid hst
    have HHR := Lib.hid hhr
    have HHZ := Lib.hid hz
    have HDN := Lib.hid hdn
    have HRS := Lib.hid hrs
    have HSK := Lib.hid hsk
    have HOA := Lib.hid (Octets.append hro hoz)
    have HL0 := Lib.hid hL
    have HE0 := Lib.hid he
    clear hrl h hia hso hso2 hst ho1 hic hz hdn hrs hsk hro hhr hL hvr he hp8 hd8 hfew
    obtain ⟨all, hall2⟩ : ∃ all, rs ++ zs = all := ⟨_, rfl⟩
    have HALL := Lib.hid hall2
    rw [hall2] at hskl hall HOA
    have hal : all.length = rs.length + zs.length := by rw [← hall2, List.length_append]
    have HAL := Lib.hid hal
    clear hall2 hal
    go_enter Tryd.func12, Tryd.ntmps12
    go_upto_region 6 with (first
      | (have _t := HHR; at_builtin; refine wpList_append_ints (xs := []) (ys := rs) _ rfl _ _ _ rfl elem8 (Own.nil w w.heap.size _ _) rfl rfl _t.out (by simp; omega) (Nat.le_refl _) ?_; clear _t HHR; intro v3 w3 own3 hg3 hb3 hv3; rw [List.nil_append] at own3; obtain ⟨A3, c3, rfl, _, _, _⟩ := own3.opened; have HZ3 := Lib.hid (HHZ.out.below hb3); have B3 := Lib.hid hb3; have O3 := Lib.hid own3; clear own3 hg3 hb3 hv3)
      | (have _t := HZ3; at_builtin; refine wpList_append_ints (xs := rs) (ys := zs) _ rfl _ _ _ rfl elem8 O3.out rfl rfl _t.out (by omega) B3.out.size ?_; clear _t HZ3; intro v4 w4 own4 hg4 hb4 hv4; rw [HALL.out] at own4; obtain ⟨A4, c4, rfl, _, _, _⟩ := own4.opened; have B4 := Lib.hid (B3.out.trans hb4); have O4 := Lib.hid own4; clear own4 hg4 hb4 hv4))
    have o4 := O4.out
    obtain ⟨_, _, _, hc4, hm4, hh4⟩ := own_open o4
    have HH4 := Lib.hid hh4
    clear o4 hh4 x9 x2 O3 B3
    go_wp2_with fail
    refine (newr_any A4 all c4 w4 (by omega) HH4.out).mono ?_
    rintro e w5 ⟨g, v, rfl, hg5, R5, b5⟩
    have B5 := Lib.hid (B4.out.trans (b5.mono B4.out.size))
    have hs5 := b5.size
    have hxg : x < w4.heap.size := by have := B4.out.size; omega
    have ia5 := HIA.out.far (TurnsIn.ofNew (S := fun _ => False) B5.out) (fun h => h) (fun _ _ h => h)
    have x35 : w5.cell? ⟨x, 3, none⟩ = some (.int .i64 (sk : Int)) := ia5.blk.cell 3
    have O5 := Lib.hid (O4.out.below b5)
    have R5h := Lib.hid R5
    clear R5 ia5 b5
    go_wp2_with fail
    refine (seek_yes w4.heap.size g v all 0 sk w5 R5h.out (by omega) hskl).mono ?_
    rintro e w6 ⟨rfl, R6, t6⟩
    have T6 := Lib.hid (show TurnsIn (fun _ => False) w w6 from (TurnsIn.ofNew (S := fun _ => False) B5.out).then_ t6 (fun b hb he => by have := B4.out.size; omega))
    have O6 := Lib.hid (O5.out.out t6 (fun b hb he => O5.out.ne_block R5h.out.blk (by decide) (by rw [hb, he])))
    have R6h := Lib.hid R6
    have hs6 := t6.size
    clear R6 t6 x35
    have hB6 : B ≤ w6.heap.size := by have := B4.out.size; omega
    have ia6 := HIA.out.far T6.out (fun h => h) (fun _ _ h => h)
    have os6 := HH.out.os.out T6.out (fun _ _ h => h)
    have od6 := HH.out.od.out T6.out (fun _ _ h => h)
    have L6 := laid_far HL0.out (by decide) T6.out (fun h => h)
    have hvn : ∀ b, v.ownBlock = some b → w4.heap.size ≤ b := fun b hb => (R6h.out.own.lt b hb).1
    have GR := Lib.hid (read_any ⟨B, w4.heap.size, x, w6.heap.size + 1 + 1 + 1, g, most, vr, (sk : Int), 0, v, all⟩ s vs vd A c sk w6 rfl ia6 os6 od6 R6h.out (fun b hb => ⟨fun he => by have h1 := (HIA.out.own.lt b hb).2; have h2 := hvn b he; have h3 := B4.out.size; omega, HH.out.ap b hb⟩) HH.out.cp HSO.out HOA.out (show all.length ≤ 1000000 by omega) hB6 hm.2 L6 hGB)
    clear ia6 os6 od6 L6 hvn
    unfold ReadTo at GR
    go_wp2_with fail
    refine GR.out.mono ?_
    rintro e w7 ⟨t, q, e1, vs', vd', A', c', rfl, RA⟩
    clear GR
    have T7 : Hid (TurnsIn (fun b => b = x ∨ (Value.slice A s.out.length c).ownBlock = some b) w w7) := Lib.hid ((T6.out.mono (fun _ _ h => h.elim)).then_ RA.turns (fun b hb he => by
      rcases he with he | he | he
      · have he' : b = g := he
        have := B4.out.size
        omega
      · exact .inl he
      · exact .inr he))
    have hsz6 : w.heap.size ≤ w6.heap.size := T6.out.size
    have N7 := Lib.hid (show Newer w (.slice A s.out.length c) (.slice A' t.out.length c') ∧ Newer w vs vs' ∧ Newer w vd vd' from ⟨Newer.trans (Newer.refl _ _) hsz6 RA.new.1, Newer.trans (Newer.refl _ _) hsz6 RA.new.2.1, Newer.trans (Newer.refl _ _) hsz6 RA.new.2.2⟩)
    have O7 : Hid (Own w7 w.heap.size 5 .u8 (.slice A4 all.length c4) all) := Lib.hid (O6.out.out RA.turns (fun b hb he => by
      have hbw := O4.out.lt b hb
      rcases he with he | he | he
      · have he' : b = g := he
        omega
      · have he' : b = x := he
        omega
      · have := (HIA.out.own.lt b he).2
        omega))
    have HNX : Hid (∃ r, Stands most (b ++ zs) t r e1 ∧ doneP t r = doneP t q + 8 * (dn / 8)) := Lib.hid (by
      have := HST.out.next (c := zs) hm.1 HE0.out (t := t) (q := q) (f := e1) (by rw [HDN.out, HSK.out, HRS.out, HALL.out]; exact RA.reach) (by rw [HDN.out, HRS.out, HALL.out]; exact RA.ends)
      rw [HDN.out] at this
      exact this)
    have RAh := Lib.hid RA
    have bx := RA.ia.blk
    have xb := bx.set_ 9 (.int .i64 (errI e1))
    have xb2 := xb.set_ 2 (.slice none 0 0)
    have xb3 := xb2.set_ 3 (.int .i64 0)
    have z9 := bx.frozen 9
    have z2 := xb.frozen 2
    have z3 := xb2.frozen 3
    have y9 := (bx.cell 9).trans (show _ = some (Value.int .i64 0) from rfl)
    have y2 := (xb.cell 2).trans (show _ = some vr from rfl)
    have y3 := (xb2.cell 3).trans (show _ = some (Value.int .i64 (sk : Int)) from rfl)
    have y99 := (xb3.cell 9).trans (show _ = some (Value.int .i64 (errI e1)) from rfl)
    have XB3 := Lib.hid xb3
    have T8 : Hid (TurnsIn (· = x) w7 (((w7.setCell ⟨x, 9, none⟩ (.int .i64 (errI e1))).setCell ⟨x, 2, none⟩ (.slice none 0 0)).setCell ⟨x, 3, none⟩ (.int .i64 0))) := Lib.hid ((((TurnsIn.refl (· = x) w7).setCell (p := ⟨x, 9, none⟩) (.inl rfl) _).setCell (p := ⟨x, 2, none⟩) (.inl rfl) _).setCell (p := ⟨x, 3, none⟩) (.inl rfl) _)
    rw [show (if e1 = 2 then (0 : Int) else e1) = errI e1 from rfl]
    clear RA bx xb xb2 xb3
    by_cases hok : e1 = 0 ∨ e1 = 2
    · have d9 : errI e1 = 0 := errI_ok hok
      have HOK := Lib.hid hok
      have RD := Lib.hid (RAh.out.rd hok)
      rw [d9] at z2 z3 y2 y3 y99 XB3 T8
      rw [d9]
      obtain ⟨dq, hdq⟩ : ∃ dq, doneP t q = dq := ⟨_, rfl⟩
      rw [hdq] at RD HNX
      obtain ⟨n, hn⟩ : ∃ n, all.length - dq / 8 = n := ⟨_, rfl⟩
      have hdql : dq ≤ 8 * all.length := RD.out.le
      have HDQ := Lib.hid hdq
      obtain ⟨W8, hW8⟩ : ∃ W8, ((w7.setCell ⟨x, 9, none⟩ (.int .i64 0)).setCell ⟨x, 2, none⟩ (.slice none 0 0)).setCell ⟨x, 3, none⟩ (.int .i64 0) = W8 := ⟨_, rfl⟩
      rw [hW8] at XB3 T8 y99
      have HW8 := Lib.hid hW8
      have RD8 := Lib.hid (rd_x RAh.out.ia.blk T8.out RD.out)
      have O8 := Lib.hid (own_x RAh.out.ia.blk T8.out O7.out)
      have IO8 := Lib.hid (own_x RAh.out.ia.blk T8.out RAh.out.ia.own)
      have OS8 := Lib.hid (own_x RAh.out.ia.blk T8.out RAh.out.os)
      have OD8 := Lib.hid (own_x RAh.out.ia.blk T8.out RAh.out.od)
      clear hok d9 hdq hW8
      go_upto_region 11 with (fail)
      rw [HW8.out]
      have GA := Lib.hid (at_any w4.heap.size g v all dq W8 RD8.out)
      have x3 := (XB3.out.cell 3).trans (show _ = some (Value.int .i64 0) from rfl)
      have f3 := XB3.out.frozen 3
      have hdqm : Int.tmod (dq : Int) 8 = ((dq % 8 : Nat) : Int) := by rw [Int.tmod_eq_emod_of_nonneg (by omega)]; omega
      have hdqw : IntKind.i64.wrap ((dq % 8 : Nat) : Int) = ((dq % 8 : Nat) : Int) := by rw [IntKind.wrap_i64]; omega
      go_wp2_with fail
      refine GA.out.mono ?_
      rintro e w9 ⟨rfl, hw9⟩
      subst hw9
      clear GA y99
      obtain ⟨sq, hsq⟩ : ∃ sq, dq % 8 = sq := ⟨_, rfl⟩
      rw [hsq] at hdqm hdqw
      have HSQ := Lib.hid hsq
      clear hsq
      go_upto_region 12 with (fail)
      obtain ⟨W9, hW9⟩ : ∃ W9, W8.setCell ⟨x, 3, none⟩ (.int .i64 (sq : Int)) = W9 := ⟨_, rfl⟩
      have xb9 := XB3.out.set_ 3 (.int .i64 (sq : Int))
      have t9 : TurnsIn (· = x) W8 (W8.setCell ⟨x, 3, none⟩ (.int .i64 (sq : Int))) := (TurnsIn.refl (· = x) W8).setCell (p := ⟨x, 3, none⟩) (.inl rfl) _
      rw [hW9] at xb9 t9
      have XB9 := Lib.hid xb9
      have T9 := Lib.hid t9
      have RD9 := Lib.hid (rd_x XB3.out t9 RD8.out)
      have O9 := Lib.hid (own_x XB3.out t9 O8.out)
      have IO9 := Lib.hid (own_x XB3.out t9 IO8.out)
      have OS9 := Lib.hid (own_x XB3.out t9 OS8.out)
      have OD9 := Lib.hid (own_x XB3.out t9 OD8.out)
      have GA9 := Lib.hid (at_any w4.heap.size g v all dq W9 RD9.out)
      rw [hW9]
      clear hW9 xb9 t9 x3 f3
      obtain ⟨k, hk⟩ : ∃ k, dq / 8 = k := ⟨_, rfl⟩
      have hdk : Int.tdiv (dq : Int) 8 = (k : Int) := by rw [Int.tdiv_eq_ediv_of_nonneg (by omega)]; omega
      have hkw : IntKind.i64.wrap (k : Int) = (k : Int) := by rw [IntKind.wrap_i64]; omega
      have hnw : IntKind.i64.wrap ((all.length : Int) - (k : Int)) = (n : Int) := by rw [IntKind.wrap_i64]; omega
      have hkl : k ≤ all.length := by omega
      have HK := Lib.hid hk
      have hnb : n ≤ 990000 := by omega
      have HNN := Lib.hid (show all.length - k = n by rw [← hk]; exact hn)
      clear hk hn
      go_upto_region 13 with (first
        | (go_at_call 22; refine GA9.out.mono ?_; rintro e w9 ⟨rfl, hw9⟩; subst hw9)
        | (at_make; refine wpList_make_ints _ rfl (.tmp 62) (.tmp 62) _ rfl elem8 n n rfl rfl rfl rfl (Nat.le_refl _) (by omega) ?_; intro w10 O10 b10 s10; have xb10 := XB9.out.below b10 XB9.out.lt; have x2 := (xb10.cell 2).trans (show _ = some (Value.slice none 0 0) from rfl); have f2 := xb10.frozen 2; have XB10 := Lib.hid xb10; have O10h := Lib.hid O10; have B10 := Lib.hid b10; clear xb10 O10 b10))
      obtain ⟨gr, hgr⟩ : ∃ gr, W9.heap.size = gr := ⟨_, rfl⟩
      rw [hgr]
      rw [hgr] at O10h s10
      obtain ⟨W11, hW11⟩ : ∃ W11, w10.setCell ⟨x, 2, none⟩ (.slice (some ⟨gr, 0, none⟩) n n) = W11 := ⟨_, rfl⟩
      have xb11 := XB10.out.set_ 2 (.slice (some ⟨gr, 0, none⟩) n n)
      have t11 : TurnsIn (· = x) w10 (w10.setCell ⟨x, 2, none⟩ (.slice (some ⟨gr, 0, none⟩) n n)) := (TurnsIn.refl (· = x) w10).setCell (p := ⟨x, 2, none⟩) (.inl rfl) _
      rw [hW11] at xb11 t11
      have XB11 := Lib.hid xb11
      have T11 := Lib.hid t11
      have RD11 := Lib.hid (rd_x XB10.out t11 (RD9.out.below B10.out))
      have O11 := Lib.hid (own_x XB10.out t11 (O9.out.below B10.out))
      have IO11 := Lib.hid (own_x XB10.out t11 (IO9.out.below B10.out))
      have OS11 := Lib.hid (own_x XB10.out t11 (OS9.out.below B10.out))
      have OD11 := Lib.hid (own_x XB10.out t11 (OD9.out.below B10.out))
      have OR11 := Lib.hid (own_x XB10.out t11 O10h.out)
      have hgB : B ≤ gr := by have h1 := T9.out.size; have h2 := T8.out.size; have h3 := T7.out.size; omega
      rw [hW11]
      clear hW11 xb11 t11 x2 f2 GA9
      have y2 : W11.cell? ⟨x, 2, none⟩ = some (.slice (some ⟨gr, 0, none⟩) n n) := (XB11.out.cell 2).trans rfl
      have GA11 := Lib.hid (at_any w4.heap.size g v all dq W11.drew ⟨RD11.out.blk.drewN 1, RD11.out.own.drewN 1, RD11.out.le⟩)
      obtain ⟨_, _, e4, hc4, _, hh11⟩ := own_open O11.out
      injection e4 with e41 e42 e43
      subst e43
      clear e41 e42
      have hsrc := holds_from8 (q := k) hh11 hc4
      have HSRC := Lib.hid hsrc
      clear hsrc hh11
      refine wp_region_held_drew (S := (fun W' : World => W'.cell? ⟨x, 2, none⟩ = some (.slice (some ⟨gr, 0, none⟩) n n))) (by kernel_rfl) y2 (fun hS => ?_)
      refine wpAnyH_take (i := 0) (oi := ⟨some 66, _, _, _, _, _⟩) (v := .pointer (some ⟨x, 0, none⟩)) rfl (by kernel_rfl) (by kernel_rfl) (by kernel_rfl) (fun _ _ _ h => h) (Or.inl ⟨by rfl, fun W hW => by go_simp⟩) hS ?_
      try simp only [Act.put, List.setIfInBounds_toArray, List.set_cons_zero, List.set_cons_succ]
      refine wpAnyH_take (i := 4) (oi := ⟨some 70, _, _, _, _, _⟩) (v := .slice A4 all.length c4) rfl (by kernel_rfl) (by kernel_rfl) (by kernel_rfl) (fun _ _ _ h => h) (Or.inl ⟨by rfl, fun W hW => by go_simp⟩) hS ?_
      try simp only [Act.put, List.setIfInBounds_toArray, List.set_cons_zero, List.set_cons_succ]
      refine wpAnyH_take (i := 5) (oi := ⟨some 71, _, _, _, _, _⟩) (v := .pointer (some ⟨g, 0, none⟩)) rfl (by kernel_rfl) (by kernel_rfl) (by kernel_rfl) (fun _ _ _ h => h) (Or.inl ⟨by rfl, fun W hW => by go_simp⟩) hS ?_
      try simp only [Act.put, List.setIfInBounds_toArray, List.set_cons_zero, List.set_cons_succ]
      refine wpAnyH_take (i := 1) (oi := ⟨some 67, _, _, _, _, _⟩) (v := .pointer (some ⟨x, 0, none⟩)) rfl (by kernel_rfl) (by kernel_rfl) (by kernel_rfl) (fun _ _ _ h => h) (Or.inl ⟨by rfl, fun W hW => by go_simp⟩) hS ?_
      try simp only [Act.put, List.setIfInBounds_toArray, List.set_cons_zero, List.set_cons_succ]
      refine wpAnyH_take (i := 2) (oi := ⟨some 68, _, _, _, _, _⟩) (v := .pointer (some ⟨x, 2, none⟩)) rfl (by kernel_rfl) (by kernel_rfl) (by kernel_rfl) (fun _ _ _ h => h) (Or.inl ⟨by rfl, fun W hW => by go_simp⟩) hS ?_
      try simp only [Act.put, List.setIfInBounds_toArray, List.set_cons_zero, List.set_cons_succ]
      refine wpAnyH_take (i := 3) (oi := ⟨some 69, _, _, _, _, _⟩) (v := .slice (some ⟨gr, 0, none⟩) n n) rfl (by kernel_rfl) (by kernel_rfl) (by kernel_rfl) (fun _ _ _ h => h) (Or.inl ⟨by rfl, fun W hW => by have k1 : W.cell? ⟨x, 2, none⟩ = some (.slice (some ⟨gr, 0, none⟩) n n) := hW; go_simp⟩) hS ?_
      try simp only [Act.put, List.setIfInBounds_toArray, List.set_cons_zero, List.set_cons_succ]
      refine wpAnyH_ready (rs := [6]) (by kernel_rfl) (by simp) ?_
      refine AllReadyH.cons rfl (fun K hK => ?_) AllReadyH.nil
      go_simp
      go_at_call 22
      refine GA11.out.mono ?_
      rintro e w12 ⟨rfl, hw12⟩
      subst hw12
      refine hK.out _ _ hS (fun hS => ?_)
      clear hK K
      try simp only [Act.put, List.setIfInBounds_toArray, List.set_cons_zero, List.set_cons_succ]
      refine wpAnyH_take (i := 7) (oi := ⟨some 73, _, _, _, _, _⟩) (v := .int .i64 (k : Int)) rfl (by kernel_rfl) (by kernel_rfl) (by kernel_rfl) (fun _ _ _ h => h) (Or.inl ⟨by rfl, fun W hW => by go_simp⟩) hS ?_
      try simp only [Act.put, List.setIfInBounds_toArray, List.set_cons_zero, List.set_cons_succ]
      refine wpAnyH_ready (rs := [8]) (by kernel_rfl) (by simp) ?_
      refine AllReadyH.cons rfl (fun K hK => ?_) AllReadyH.nil
      go_simp
      refine hK.out _ _ hS (fun hS => ?_)
      clear hK K
      try simp only [Act.put, List.setIfInBounds_toArray, List.set_cons_zero, List.set_cons_succ]
      refine wpAnyH_ready (rs := [9]) (by kernel_rfl) (by simp) ?_
      refine AllReadyH.cons rfl (fun K hK => ?_) AllReadyH.nil
      refine step_of_list (by simp [Region.wanted]) fun Q9 hn9 => ?_
      refine wpList_copy_ints _ rfl (.tmp 69) (.tmp 74) 22 rfl elem8 (OR11.out.drewN 1) rfl (ys := all.drop k) (by rw [List.length_drop]; rfl) HSRC.out (by rw [List.length_drop, List.length_replicate, HNN.out]; exact Nat.le_refl _) (by show gr ≤ W11.heap.size; have := T11.out.size; omega) ?_
      intro W13 o13 g13 b13
      refine hn9 _ _ ?_
      clear hn9 Q9
      change K (Act.put _ (some 75) _) _
      have hnx : gr ≠ x := by have := HIA.out.blk.lt; have h1 := T9.out.size; have h2 := T8.out.size; have h3 := T7.out.size; omega
      have t13 : TurnsIn (fun b => b = gr) W11 W13 := ⟨g13.os, g13.tape, g13.output, g13.size, fun b hb hs => g13.block b hb (fun he => hs (by have := Option.some.inj he; exact this))⟩
      have xb13 := XB11.out.out t13 (fun he => hnx he.symm)
      have k13 : W13.cell? ⟨x, 2, none⟩ = some (.slice (some ⟨gr, 0, none⟩) n n) := (xb13.cell 2).trans rfl
      have y9 := (xb13.cell 9).trans (show _ = some (Value.int .i64 0) from rfl)
      have XB13 := Lib.hid xb13
      have T13 := Lib.hid t13
      have O13 := Lib.hid o13
      clear xb13 t13 o13 g13 b13 GA11
      refine hK.out _ _ k13 (fun hS => ?_)
      clear hK K
      try simp only [Act.put, List.setIfInBounds_toArray, List.set_cons_zero, List.set_cons_succ]
      refine wpAnyH_done (by kernel_rfl) ?_ _
      clear hS k13
      obtain ⟨SA, hSA⟩ : ∃ SA, (if c4 = k then A4 else A4.map fun x => x.add k) = SA := ⟨_, rfl⟩
      rw [hSA]
      clear hSA
      go_wp2_with fail
      go_ret
      obtain ⟨r, hst, hdr⟩ := HNX.out
      have own13 : ∀ {o : Value} {xs : List Int}, Own W11 B 5 .u8 o xs → (∀ b, o.ownBlock = some b → b ≠ gr) → Own W13 B 5 .u8 o xs := fun ho hne => ho.out T13.out (fun b hb he => hne b hb he)
      have hold : ∀ {o : Value} {xs : List Int}, Own w7 B 5 .u8 o xs → ∀ b, o.ownBlock = some b → b ≠ gr := fun ho b hb he => by
        have h1 := (ho.lt b hb).2
        have h2 := T9.out.size
        have h3 := T8.out.size
        omega
      have hdk8 : doneP t r / 8 = dn / 8 + k := by rw [hdr]; have := HK.out; omega
      have hdm8 : doneP t r % 8 = sq := by rw [hdr]; have := HSQ.out; omega
      have hrest : restL (b ++ zs) t r e1 = all.drop k := by
        rw [restL_ok HOK.out, hdk8, ← List.drop_drop, List.drop_append_of_le_length (by have := hst.le hm.1; have h9 := HRL.out; have := HALL.out; have h8 := HST.out.le hm.1; have h7 := HDN.out; omega), HRS.out, HALL.out]
      have hov : all.drop k ++ (List.replicate n (0 : Int)).drop (all.drop k).length = all.drop k := by
        rw [List.length_drop, HNN.out]
        simp
      have or13 := O13.out
      rw [hov] at or13
      have hlen : (all.drop k).length = n := by rw [List.length_drop, HNN.out]
      have hfew := hst.few hm.1 HOK.out
      have hlb : (b ++ zs).length - doneP t r / 8 = n := by
        have h1 : (restL (b ++ zs) t r e1).length = n := by rw [hrest, hlen]
        rw [restL_ok HOK.out, List.length_drop] at h1
        exact h1
      refine ⟨t, r, e1, .slice (some ⟨gr, 0, none⟩) n n, vs', vd', A', c', by rw [errI_ok HOK.out]; rfl, ⟨hst, ⟨?_, own13 IO11.out (hold RAh.out.ia.own), RAh.out.ia.most⟩, by rw [hrest]; exact or13.mono hgB, own13 OS11.out (hold RAh.out.os), own13 OD11.out (hold RAh.out.od), RAh.out.ap, RAh.out.cp, by show n ≤ 901; omega⟩, ?_, N7.out.1, N7.out.2.1, N7.out.2.2, .inr (fun g hg => by have h2 : gr = g := Option.some.inj hg; have h3 := T7.out.size; have h4 := T9.out.size; have h5 := T8.out.size; omega)⟩
      · have hx := XB13.out
        have : (icE most t r e1 (.slice (some ⟨gr, 0, none⟩) n n) vs' vd').cells (.slice A' t.out.length c') = #[.int .i64 most, .slice A' t.out.length c', .slice (some ⟨gr, 0, none⟩) n n, .int .i64 (sq : Int), .int .u8 t.ph, .bool t.last, .int .i64 t.left, vs', vd', .int .i64 0] := by
          unfold icE Ic.cells
          simp only
          rw [skipI_ok HOK.out, errI_ok HOK.out, hdm8]
        rw [this]
        exact hx
      · have h3 := T7.out.size
        have h4 := T9.out.size
        have h5 := T8.out.size
        have q1 := ((T7.out.trans (T8.out.mono fun _ _ h => .inl h)).trans (T9.out.mono fun _ _ h => .inl h)).trans (TurnsIn.ofNew (S := fun b => b = x ∨ (Value.slice A s.out.length c).ownBlock = some b) B10.out)
        exact (q1.trans (T11.out.mono fun _ _ h => .inl h)).then_ T13.out (fun b hb he => by have he' : b = gr := he; omega)
    · have d9 : (errI e1 == 0) = false := by rw [beq_eq_false_iff_ne]; exact (errI_no hok).2
      have HOK := Lib.hid hok
      clear hok
      generalize hE : errI e1 = E at *
      have HE := Lib.hid hE
      clear hE
      go_wp2_with fail
      go_ret
      obtain ⟨r, hst, hdr⟩ := HNX.out
      have hne : ∀ {g : Nat} {ty : TypeId} {cs : Array Value}, True → True := fun _ => trivial
      have keep : ∀ {o : Value} {xs : List Int}, Own w7 B 5 .u8 o xs → Own (((w7.setCell ⟨x, 9, none⟩ (.int .i64 E)).setCell ⟨x, 2, none⟩ (.slice none 0 0)).setCell ⟨x, 3, none⟩ (.int .i64 0)) B 5 .u8 o xs := fun ho => ho.out T8.out (fun b hb he => ho.ne_block RAh.out.ia.blk (by decide) (by rw [hb, he]))
      refine ⟨t, r, e1, .slice none 0 0, vs', vd', A', c', by rw [HE.out]; rfl, ⟨hst, ⟨?_, keep RAh.out.ia.own, RAh.out.ia.most⟩, by rw [restL_no HOK.out]; exact Own.nil _ _ _ _, keep RAh.out.os, keep RAh.out.od, RAh.out.ap, RAh.out.cp, by simp [capV]⟩, T7.out.trans (T8.out.mono fun _ _ h => .inl h), N7.out.1, N7.out.2.1, N7.out.2.2, .inr (fun g hg => by simp [Value.ownBlock] at hg)⟩
      have hx := XB3.out
      have : (icE most t r e1 (.slice none 0 0) vs' vd').cells (.slice A' t.out.length c') = #[.int .i64 most, .slice A' t.out.length c', .slice none 0 0, .int .i64 0, .int .u8 t.ph, .bool t.last, .int .i64 t.left, vs', vd', .int .i64 E] := by
        unfold icE Ic.cells
        simp only
        rw [skipI_no HOK.out, HE.out]
      rw [this]
      exact hx
  · have x9 : w.cell? ⟨x, 9, none⟩ = some (.int .i64 (errI e0)) := h.ia.blk.cell 9
    have d9 : (errI e0 == 0) = false := by rw [beq_eq_false_iff_ne]; exact (errI_no he).2
    have d92 : (errI e0 != 0) = true := by rw [bne, d9]; rfl
    have HF := Lib.hid (h.more (zs := zs) hm.1 he)
    clear h hz hoz he hL
    generalize hE : errI e0 = E at *
    have HE := Lib.hid hE
    clear hE
    go_enter Tryd.func12, Tryd.ntmps12
    go_wp2_with fail
    go_ret
    exact ⟨s, p, e0, vr, vs, vd, A, c, by rw [HE.out]; rfl, HF.out, TurnsIn.refl _ _, Newer.refl _ _, Newer.refl _ _, Newer.refl _ _, Newer.refl _ _⟩
end Go.Proofs.YthflefdchgpbdaaDoor.Inf
