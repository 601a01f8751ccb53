/-
  JournalOpens: the walk: of any bytes in its two sectors the last record is the document's; on a device that is off there is none.
-/
import Derived.Test.YtpnodocjpedcmaaDoorMJoD
namespace Go.Proofs.YtpnodocjpedcmaaDoor.JournalOpens
open Go.ChangeShapes Go.WideShapes Go.ChangeAt Go.RowKit Go.Proofs.YtpnodocjpedcmaaDoor.Kit Go.Proofs.YtpnodocjpedcmaaDoor.Jr
open Go.Proofs.YtpnodocjpedcmaaDoor.Sec (new_any Dev Dv DvAt DSet NewDev back_any write_any off_any RDv GivesD GivesED rnew_any rwrite_any rback_any dCells zD)
open Go.Proofs.YtpnodocjpedcmaaDoor.Sha (LaidS)
open Go.Proofs.YtpnodocjpedcmaaDoor.Pt (whole_of IsThere)

/-- The program's device and the document's, in a block of the call's own. -/
structure TJ (w0 w : World) (a mk mw g : Nat) (s m : Dv) (L : List Value) : Prop where
  d : Dev w0 w a mk mw s
  x : Block w g 31 L.toArray
  r : RDv w (.agg L.toArray) m
  l : L.length = 8
  n : Sec.NoText L.toArray
  g : w0.heap.size ≤ g
section
variable {w0 w w' : World} {a mk mw g : Nat} {s m : Dv} {L : List Value}
theorem TJ.below (h : TJ w0 w a mk mw g s m L) (hb : Below w.heap.size w w') : TJ w0 w' a mk mw g s m L := ⟨h.d.below hb, h.x.below hb h.x.lt, h.r.below hb, h.l, h.n, h.g⟩
theorem TJ.turn (h : TJ w0 w a mk mw g s m L) {I : Nat → Prop} {s' : Dv} (hd : DvAt w' I a mk mw s') (t : TurnsIn (DSet a mk mw) w w') : TJ w0 w' a mk mw g s' m L :=
  ⟨h.d.turn hd t, Sec.Block.dset h.d.d t h.x (by decide), Sec.RDv.dset h.d.d t h.r, h.l, h.n, h.g⟩
theorem rdv_list {w : World} {v : Value} {m : Dv} (h : RDv w v m) : ∃ L : List Value, v = .agg L.toArray ∧ L.length = 8 ∧ (∀ u ∈ L, u.oneCell' = true) ∧ Sec.NoText L.toArray ∧ RDv w (.agg L.toArray) m := by
  obtain ⟨Ak, ck, Aw, cw, rfl, r⟩ := h
  exact ⟨_, rfl, rfl, Sec.dCells_one Ak ck Aw cw m, Sec.dCells_noText Ak ck Aw cw m, Ak, ck, Aw, cw, rfl, r⟩
theorem TJ.stored (h : TJ w0 w a mk mw g s m L) {K : List Value} {m' : Dv} (hk : K.length = 8) (hn : Sec.NoText K.toArray) (hr : RDv w (.agg K.toArray) m') (X : Block w' g 31 K.toArray) (gr : w.grownBy w' (some g)) : TJ w0 w' a mk mw g s m' K :=
  ⟨h.d.grown h.x (by decide) (by decide) h.g gr, X, hr.kept h.x h.n gr, hk, hn, h.g⟩
theorem TJ.start (h : Dev w0 w a mk mw s) (hr : RDv w (.agg L.toArray) m) (hl : L.length = 8) (hn : Sec.NoText L.toArray) (X : Block w' w.heap.size 31 L.toArray) (gr : (w.alloc (.cells zD 31)).grownBy w' (some w.heap.size)) : TJ w0 w' a mk mw w.heap.size s m L := by
  have b := below_last w (.cells zD 31)
  have bb : Below w.heap.size w w' := b.trans (below_of_grown gr b.size fun x hx => by injection hx with hx; omega)
  exact ⟨h.below bb, X, hr.below bb, hl, hn, h.b.size⟩
end

set_option maxRecDepth 100000 in
set_option maxHeartbeats 12800000 in
/-- Where no region is named there is no journal. -/
theorem jopen_arg (I : Nat → Prop) (a mk mw : Nat) (s : Dv) (w : World) (h : DvAt w I a mk mw s) :
    Calls Tryd.prog 16 #[.pointer (some ⟨a, 0, none⟩), .agg #[.int .i64 0, .int .i64 0, .int .i64 0, .int .i64 0, .int .i64 0, .int .i64 0, .int .i64 0, .int .i64 0, .int .i64 0, .int .i64 0, .int .i64 0]] w fun e w' => e = .returned (.tuple #[.pointer none, .int .i64 1]) ∧ Below w.heap.size w w' := by
  have GO : Hid (∀ W, DvAt W I a mk mw s → Calls Tryd.prog 48 #[.pointer (some ⟨a, 0, none⟩), .agg #[.int .i64 0, .int .i64 0]] W fun e w' => e = .returned (.tuple #[.pointer none, .int .i64 1]) ∧ Below W.heap.size W w') := Lib.hid (fun W hd =>
    (Pt.open_any I a mk mw 0 0 s W hd (by omega) (by omega)).mono fun e w' ⟨h1, _, h3⟩ => ⟨h3 (by unfold IsThere; omega), h1⟩)
  have HB := Lib.hid (fun W => journal_build a W)
  have HW : Hid (∀ V, Below w.heap.size w V → DvAt V I a mk mw s) := Lib.hid (fun V hb => h.below hb)
  have i0 : ∀ w, (Instr.index 43 (.agg #[.int .i64 0, .int .i64 0, .int .i64 0, .int .i64 0]) (.int .i64 0)).run Tryd.prog w = .ok (.agg #[.int .i64 0, .int .i64 0]) w := fun _ => by kernel_rfl
  have B0 : Below w.heap.size w (w.alloc (.cells #[.int .i64 0, .int .i64 0, .int .i64 0, .int .i64 0, .int .i64 0, .int .i64 0, .int .i64 0, .int .i64 0, .int .i64 0, .int .i64 0, .int .i64 0] 45)) := (Below.refl _ _).alloc (Nat.le_refl _) _
  obtain ⟨V0, hV0⟩ : ∃ V0, V0 = w.alloc (.cells #[.int .i64 0, .int .i64 0, .int .i64 0, .int .i64 0, .int .i64 0, .int .i64 0, .int .i64 0, .int .i64 0, .int .i64 0, .int .i64 0, .int .i64 0] 45) := ⟨_, rfl⟩
  have M0 : Block V0 w.heap.size 45 #[.int .i64 0, .int .i64 0, .int .i64 0, .int .i64 0, .int .i64 0, .int .i64 0, .int .i64 0, .int .i64 0, .int .i64 0, .int .i64 0, .int .i64 0] := by rw [hV0]; exact Block.new w _ _
  rw [← hV0] at B0
  have B1 := B0.alloc B0.size (.cells (jL a (.pointer none) (.pointer none) rec0.cells).toArray 107)
  have M1 := M0.alloc (.cells (jL a (.pointer none) (.pointer none) rec0.cells).toArray 107)
  obtain ⟨LJ, hLJ⟩ : ∃ LJ, jL a (.pointer none) (.pointer none) rec0.cells = LJ := ⟨_, rfl⟩
  rw [hLJ] at HB B1 M1
  obtain ⟨V1, hV1⟩ : ∃ V1, V1 = V0.alloc (.cells LJ.toArray 107) := ⟨_, rfl⟩
  rw [← hV1] at B1 M1
  have m0 := M1.cell 0
  have m1 := M1.cell 1
  have m2 := M1.cell 2
  have m3 := M1.cell 3
  simp at m0 m1 m2 m3
  have HV0 := Lib.hid hV0
  have HV1 := Lib.hid hV1
  clear h B0 M0 hLJ hV0 hV1
  go_enter Tryd.func16, Tryd.ntmps16
  go_upto_region 1 with fail
  rw [← HV0.out]
  go_upto_region 2 with (refine wpList_build_known rfl _ _ rfl (.agg LJ.toArray) ?_ ?_; (intro W; have hw9 := HB.out W; simpa [Act.eval] using hw9))
  rw [← HV1.out]
  clear HV0 HV1
  go_wp2_with fail
  refine wp_loop_rounds 1 ?_
  rw [rounds_succ]
  have B2 := B1.alloc B1.size (.cells #[.int .i64 0, .int .i64 0] 42)
  have D2 := HW.out _ B2
  go_wp2_with (go_at_call 48; (with_reducible refine (GO.out _ D2).mono ?_); rintro e y0 ⟨rfl, hb0⟩)
  go_ret2
  exact ⟨rfl, B2.trans (hb0.mono B2.size)⟩

def picksOf (z : Int) : List Int := if z = 0 then [2, 1] else if z = 1 then [1, 2] else [1, 1]

set_option maxRecDepth 100000 in
set_option maxHeartbeats 12800000 in
theorem walk (A : Option Addr) (xs : List Int) (c : Nat) (A' : Option Addr) (ys : List Int) (c' : Nat) (z : Int) (w : World) (hl : xs.length ≤ c) (hm : c ≤ maxLen) (ho : Octets xs) (hr : Holds w w.heap.size .u8 A xs) (hl' : ys.length ≤ c') (hm' : c' ≤ maxLen) (ho' : Octets ys) (hr' : Holds w w.heap.size .u8 A' ys) (hz : (Lit.int .u8 z).wf = true) (hL : LaidS w) :
    Calls Tryd.prog 3 #[.slice A xs.length c, .slice A' ys.length c', .int .u8 z] w fun e w' => e = .returned (.bool true) ∧ Below w.heap.size w w' := by
  have hz := bounds_u8 hz
  have GA := Lib.hid (fun W hB => Jr.awake_any W (hL.below hB))
  by_cases hg : xs.length = 128 ∧ ys.length = 128
  case neg =>
    have hd : ((xs.length : Int) != 128) = true ∨ (((xs.length : Int) != 128) = false ∧ ((ys.length : Int) != 128) = true) := by
      simp only [bne_iff_ne, bne_eq_false_iff_eq]
      omega
    clear hg
    rcases hd with d1 | ⟨d1, d2⟩
    all_goals
      go_enter Tryd.func3, Tryd.ntmps3
      go_wp2_with (go_at_call 9; (with_reducible refine (GA.out _ (Below.refl _ _)).mono ?_); rintro e w4 ⟨rfl, hb4⟩)
      go_ret
      exact ⟨rfl, hb4⟩
  case pos =>
    have HR := Lib.hid hr
    have HR' := Lib.hid hr'
    have d1 : ((xs.length : Int) != 128) = false := by simp [hg.1]
    have d2 : ((ys.length : Int) != 128) = false := by simp [hg.2]
    have GN := Lib.hid (fun W => new_any (fun _ => True) 128 4 W (by decide) (by decide) (by decide) (by decide))
    have GRN : Hid (∀ W, Calls Tryd.prog 11 #[.int .i64 128, .int .i64 4] W (GivesD (Dv.new 128 4) W)) := Lib.hid (fun W => rnew_any 128 4 W)
    have hon0 : Pt.On (Dv.new 128 4) := Pt.On.new (by decide) (by decide) (by decide) (by decide)
    generalize hn0 : Dv.new 128 4 = s0 at GN GRN hon0
    have hs0 : s0.offs = 0 ∧ s0.wr = 0 ∧ s0.size = 128 ∧ s0.count = 4 := by rw [← hn0]; exact ⟨rfl, rfl, rfl, rfl⟩
    obtain ⟨s1, hs1⟩ : ∃ s1, (s0.write 0 xs).2 = s1 := ⟨_, rfl⟩
    obtain ⟨s2, hs2⟩ : ∃ s2, (s1.write 1 ys).2 = s2 := ⟨_, rfl⟩
    obtain ⟨s3, hs3⟩ : ∃ s3, s2.back (picksOf z) = s3 := ⟨_, rfl⟩
    have n1 := write_near1 s0 0 xs
    have n2 := write_near1 s1 1 ys
    rw [hs1] at n1
    rw [hs2] at n2
    have k1 : s1.Ok := by rw [← hs1]; exact Pt.write_ok hon0.ok _ _
    have k2 : s2.Ok := by rw [← hs2]; exact Pt.write_ok k1 _ _
    have b3 := back_still (s := s2) (picksOf z)
    rw [hs3] at b3
    have k3 : s3.Ok := by rw [← hs3]; exact Pt.back_ok k2 _
    have hon := hon0.ok
    have q0 : s0.offs ≤ 10 ∧ s0.wr ≤ 10 := by omega
    have q1 : s1.offs ≤ 10 ∧ s1.wr ≤ 10 := by omega
    have q2 : s2.offs ≤ 10 ∧ s2.wr ≤ 10 := by omega
    have GW0 : Hid (∀ W a mk mw, Dev w W a mk mw s0 → Calls Tryd.prog 12 #[.pointer (some ⟨a, 0, none⟩), .int .i64 0, .slice A xs.length c] W fun e W' => (∃ E : Int, e = .returned (.int .i64 E)) ∧ DvAt W' (fun _ => True) a mk mw s1 ∧ TurnsIn (DSet a mk mw) W W') := Lib.hid (fun W a mk mw D => by
      have := write_any (fun _ => True) a mk mw s0 0 A xs c W D.d (fun _ _ => trivial) (by decide) (by omega) ho ((HR.out.below D.b).more D.b.size) (by omega) (by omega)
      rw [hs1] at this
      exact this.mono fun e W' ⟨h1, h2, h3⟩ => ⟨⟨_, h1⟩, h2, h3⟩)
    have GW1 : Hid (∀ W a mk mw, Dev w W a mk mw s1 → Calls Tryd.prog 12 #[.pointer (some ⟨a, 0, none⟩), .int .i64 1, .slice A' ys.length c'] W fun e W' => (∃ E : Int, e = .returned (.int .i64 E)) ∧ DvAt W' (fun _ => True) a mk mw s2 ∧ TurnsIn (DSet a mk mw) W W') := Lib.hid (fun W a mk mw D => by
      have := write_any (fun _ => True) a mk mw s1 1 A' ys c' W D.d (fun _ _ => trivial) (by decide) (by omega) ho' ((HR'.out.below D.b).more D.b.size) (by omega) (by omega)
      rw [hs2] at this
      exact this.mono fun e W' ⟨h1, h2, h3⟩ => ⟨⟨_, h1⟩, h2, h3⟩)
    have GX0 : Hid (∀ W L, RDv W (.agg L) s0 → Calls Tryd.prog 13 #[.agg L, .int .i64 0, .string (strOfNums xs)] W fun e W' => ∃ (E : Int) (v : Value), e = .returned (.tuple #[.int .i64 E, v]) ∧ RDv W' v s1 ∧ Below W.heap.size W W') := Lib.hid (fun W L h => by
      have := rwrite_any (.agg L) s0 0 xs W h hon (by decide) (by omega) (by omega) (by omega)
      rw [hs1] at this
      exact this.mono fun e W' ⟨v, h1, h2, h3⟩ => ⟨_, v, h1, h2, h3⟩)
    have GX1 : Hid (∀ W L, RDv W (.agg L) s1 → Calls Tryd.prog 13 #[.agg L, .int .i64 1, .string (strOfNums ys)] W fun e W' => ∃ (E : Int) (v : Value), e = .returned (.tuple #[.int .i64 E, v]) ∧ RDv W' v s2 ∧ Below W.heap.size W W') := Lib.hid (fun W L h => by
      have := rwrite_any (.agg L) s1 1 ys W h k1 (by decide) (by omega) (by omega) (by omega)
      rw [hs2] at this
      exact this.mono fun e W' ⟨v, h1, h2, h3⟩ => ⟨_, v, h1, h2, h3⟩)
    have hpo : Octets (picksOf z) ∧ (picksOf z).length = 2 := by
      unfold picksOf
      split
      · exact ⟨fun x hx => by simp at hx; omega, rfl⟩
      · split
        · exact ⟨fun x hx => by simp at hx; omega, rfl⟩
        · exact ⟨fun x hx => by simp at hx; omega, rfl⟩
    have GB : Hid (∀ W a mk mw Ap cp, Dev w W a mk mw s2 → Holds W W.heap.size .u8 Ap (picksOf z) → Calls Tryd.prog 14 #[.pointer (some ⟨a, 0, none⟩), .slice Ap 2 cp] W (Sec.Leaves (fun _ => True) a mk mw W s3 (.tuple #[]))) := Lib.hid (fun W a mk mw Ap cp D hh => by
      have := back_any (fun _ => True) a mk mw s2 Ap (picksOf z) cp W D.d (fun _ _ => trivial) (by omega) hpo.1 hh (by omega)
      rw [hs3, hpo.2] at this
      exact this)
    have GY : Hid (∀ W L Ap cp, RDv W (.agg L) s2 → Holds W W.heap.size .u8 Ap (picksOf z) → Calls Tryd.prog 15 #[.agg L, .slice Ap 2 cp] W (GivesD s3 W)) := Lib.hid (fun W L Ap cp h hh => by
      have := rback_any (.agg L) s2 Ap (picksOf z) cp W h k2 (by omega) hh (by omega)
      rw [hs3, hpo.2] at this
      exact this)
    have KC := Lib.hid (fun W h => conv_bytes (P := Tryd.prog) Tryd.underlying22 Tryd.underlying5 Tryd.underlying9 W A xs c W.heap.size h)
    have KC' := Lib.hid (fun W h => conv_bytes (P := Tryd.prog) Tryd.underlying22 Tryd.underlying5 Tryd.underlying9 W A' ys c' W.heap.size h)
    have HH : Hid (∀ W, Below w.heap.size w W → Holds W W.heap.size .u8 A xs ∧ Holds W W.heap.size .u8 A' ys) := Lib.hid (fun W hb => ⟨(HR.out.below hb).more hb.size, (HR'.out.below hb).more hb.size⟩)
    have H3 : Hid (s3.Ok ∧ s3.off = false ∧ s3.size = 128 ∧ s3.count = 4 ∧ s3.offs ≤ 100) := Lib.hid ⟨k3, b3.1, by omega, by omega, by rw [← hs3]; show s2.down.offs ≤ _; have := (Pt.down_near s2).1; omega⟩
    clear hg hr hr' hl hm ho hl' hm' ho' hs1 hs2 hs3 n1 n2 k1 k2 k3 b3 hon hon0 q0 q1 q2 hpo HR HR' hn0 hs0
    go_enter Tryd.func3, Tryd.ntmps3
    go_upto_region 9 with (first
      | (go_at_call 10; refine (GN.out _).mono ?_; rintro e w1 ⟨a, mk, mw, rfl, D1, hb1, ga, gk, gw⟩; have E1 : Dev w w1 a mk mw s0 := ⟨D1, hb1, ga, gk, gw⟩)
      | (go_at_call 11; (with_reducible refine (GRN.out _).mono ?_); rintro e w2 ⟨v2, rfl, r2, hb2⟩; obtain ⟨L2, rfl, l2, o2, n2, r2⟩ := rdv_list r2; have E2 := E1.below hb2)
      | (have _t := E2; refine wpList_store_blk rfl _ _ _ rfl (ds := L2) (Block.new w2 31 zD) rfl rfl (by rw [l2]; rfl) (by rw [l2]; kernel_rfl) o2 ?_; clear _t; intro w3 N3 g3; have T3 := TJ.start E2 r2 l2 n2 N3 g3; clear N3 g3 E2 r2)
      | (have _t := T3; go_at_call 12; (with_reducible refine (GW0.out _ a mk mw T3.d).mono ?_); rintro e w4 ⟨⟨Ew, rfl⟩, D4, t4⟩; have T4 := T3.turn D4 t4; clear _t T3)
      | (have _t := T4; go_at_call 12; (with_reducible refine (GW1.out _ a mk mw T4.d).mono ?_); rintro e w5 ⟨⟨Ex, rfl⟩, D5, t5⟩; have T5 := T4.turn D5 t5; clear _t T4))
    obtain ⟨q, hq⟩ : ∃ q, w2.heap.size = q := ⟨_, rfl⟩
    rw [hq] at T5
    try rw [hq]
    clear hq
    have R5 := block_range T5.x
    have j5 := KC.out w5 (HH.out w5 T5.d.b).1
    have l2 := T5.l
    have HL2 := Lib.hid l2
    clear l2
    clear t4 t5 D4 D5 E1 D1 ga gk gw hb1 hb2 GW0 GW1 GN GRN
    go_upto_region 10 with (first
      | (refine wpList_load_midV (by rfl) _ _ rfl q 0 rfl L2 R5 Tryd.underlying31 rfl (by rw [HL2.out]; kernel_rfl) ?_)
      | (go_at_call 13; (with_reducible refine (GX0.out _ _ T5.r).mono ?_); rintro e w6 ⟨E6, v6, rfl, r6, hb6⟩; obtain ⟨L6, rfl, l6, o6, n6, r6⟩ := rdv_list r6; have T6 := T5.below hb6)
      | (have _t := T6; refine wpList_store_blk rfl _ _ _ rfl (ds := L6) T6.x rfl rfl (by rw [l6]; exact T6.l.symm) (by rw [l6]; kernel_rfl) o6 ?_; clear _t; intro w7 N7 g7; have T7 := T6.stored l6 n6 r6 N7 g7; clear N7 g7 T6 r6))
    clear R5 j5 T5 hb6
    have R7 := block_range T7.x
    have j7 := KC'.out w7 (HH.out w7 T7.d.b).2
    have HL6 := Lib.hid l6
    clear l6 o6 n6
    go_upto_region 11 with (first
      | (refine wpList_load_midV (by rfl) _ _ rfl q 0 rfl L6 R7 Tryd.underlying31 rfl (by rw [HL6.out]; kernel_rfl) ?_)
      | (go_at_call 13; (with_reducible refine (GX1.out _ _ T7.r).mono ?_); rintro e w8 ⟨E8, v8, rfl, r8, hb8⟩; obtain ⟨L8, rfl, l8, o8, n8, r8⟩ := rdv_list r8; have T8 := T7.below hb8)
      | (have _t := T8; refine wpList_store_blk rfl _ _ _ rfl (ds := L8) T8.x rfl rfl (by rw [l8]; exact T8.l.symm) (by rw [l8]; kernel_rfl) o8 ?_; clear _t; intro w9 N9 g9; have T9 := T8.stored l8 n8 r8 N9 g9; clear N9 g9 T8 r8))
    clear R7 j7 T7 hb8 o8 n8 KC KC' GX0 GX1
    have HL8 := Lib.hid l8
    clear l8
    have hcz : (z = 0 ∧ decide (z < 2) = true) ∨ (z = 1 ∧ decide (z < 2) = true) ∨ ((z ≠ 0 ∧ z ≠ 1) ∧ decide (z < 2) = false) := by
      simp only [decide_eq_true_eq, decide_eq_false_iff_not]
      omega
    have HPK : Hid (picksOf z = if z = 0 then [2, 1] else if z = 1 then [1, 2] else [1, 1]) := Lib.hid rfl
    have huv : ∃ u v : Int, picksOf z = [u, v] := by
      unfold picksOf
      split
      · exact ⟨_, _, rfl⟩
      · split <;> exact ⟨_, _, rfl⟩
    obtain ⟨u, v, huv⟩ := huv
    have HP : Holds (w9.alloc (.cells #[.int .u8 u, .int .u8 v] 5)) (w9.alloc (.cells #[.int .u8 u, .int .u8 v] 5)).heap.size .u8 (some ⟨w9.heap.size, 0, none⟩) (picksOf z) := by
      rw [huv]
      exact holds_mark (0, 0)
    have T10 := T9.below (below_last w9 (.cells #[.int .u8 u, .int .u8 v] 5))
    have hcases : (z = 0 ∧ decide (z < 2) = true ∧ u = 2 ∧ v = 1) ∨ (z = 1 ∧ decide (z < 2) = true ∧ u = 1 ∧ v = 2) ∨ (decide (z < 2) = false ∧ u = 1 ∧ v = 1) := by
      rcases hcz with ⟨e, d⟩ | ⟨e, d⟩ | ⟨⟨e1, e2⟩, d⟩
      · refine Or.inl ⟨e, d, ?_⟩
        unfold picksOf at huv
        rw [if_pos e] at huv
        injection huv with h1 h2
        injection h2 with h2 _
        exact ⟨h1.symm, h2.symm⟩
      · refine Or.inr (Or.inl ⟨e, d, ?_⟩)
        unfold picksOf at huv
        rw [if_neg (by omega), if_pos e] at huv
        injection huv with h1 h2
        injection h2 with h2 _
        exact ⟨h1.symm, h2.symm⟩
      · refine Or.inr (Or.inr ⟨d, ?_⟩)
        unfold picksOf at huv
        rw [if_neg e1, if_neg e2] at huv
        injection huv with h1 h2
        injection h2 with h2 _
        exact ⟨h1.symm, h2.symm⟩
    clear huv hcz HPK T9
    have HCS := Lib.hid hcases
    clear hcases
    obtain ⟨w10, hw10⟩ : ∃ w10, w9.alloc (.cells #[.int .u8 u, .int .u8 v] 5) = w10 := ⟨_, rfl⟩
    rw [hw10] at HP T10
    have H10 := Lib.hid hw10
    clear hw10
    have GL3 : Hid (∀ W a mk mw, DvAt W (fun _ => True) a mk mw s3 → LaidS W → Calls Tryd.prog 16 #[.pointer (some ⟨a, 0, none⟩), .agg placesV.toArray] W fun e w' => ∃ j' p0' p1', e = .returned (.tuple #[.pointer (some ⟨j', 0, none⟩), .int .i64 0]) ∧ Below W.heap.size W w' ∧ JAt w' j' a p0' p1' (lastF s3.read)) := Lib.hid (fun W a mk mw hd hL => by
      refine (jopen_any (fun _ => True) a mk mw s3 0 0 0 0 0 0 0 W hd (by have := H3.out.2.2.2.1; omega) hL).mono ?_
      rintro e w' ⟨hb, he⟩
      rw [if_neg (by rw [H3.out.2.1]; decide)] at he
      obtain ⟨j', p0', p1', _, he, hj⟩ := he
      exact ⟨j', p0', p1', he, hb, hj⟩)
    have GP := Lib.hid (fun W => places_any W)
    have HLA := Lib.hid hL
    have HN9 : Hid (∀ W L, RDv W (.agg L) s3 → Pt.Whole s3 → Calls Tryd.prog 19 #[.agg L] W fun e w' => e = .returned (.agg (lastF s3.read).cells.toArray) ∧ Below W.heap.size W w') := Lib.hid (fun W L h hw => rlast_any (.agg L) s3 W h H3.out.1 hw (by have := H3.out.2.2.1; omega))
    have GLS : Hid (∀ W j' p0' p1', Pt.Whole s3 → JAt W j' a p0' p1' (lastF s3.read) → Calls Tryd.prog 18 #[.pointer (some ⟨j', 0, none⟩)] W fun e w' => e = .returned (.agg (lastF s3.read).cells.toArray) ∧ Below W.heap.size W w') := Lib.hid (fun W j' p0' p1' hw h => last_any j' a p0' p1' _ W h (by rw [← upto_last]; exact (upto_ok hw 2).man))
    have HNE : Hid (Pt.Whole s3 → ∀ W, (binOp .neq 50 (.agg (lastF s3.read).cells.toArray) (.agg (lastF s3.read).cells.toArray)).run Tryd.prog W = .ok (.bool false) W) := Lib.hid (fun hw => neq_same _ (by rw [← upto_last]; exact (upto_ok hw 2).man))
    have hdo : s3.down.off = true ∧ s3.down.count = s3.count := ⟨Sec.Dv.down_off s3, (down_same s3).2.1⟩
    have GLD : Hid (∀ W a mk mw, DvAt W (fun _ => True) a mk mw s3.down → LaidS W → Calls Tryd.prog 16 #[.pointer (some ⟨a, 0, none⟩), .agg placesV.toArray] W fun e w' => e = .returned (.tuple #[.pointer none, .int .i64 8]) ∧ Below W.heap.size W w') := Lib.hid (fun W a mk mw hd hL => by
      refine (jopen_any (fun _ => True) a mk mw s3.down 0 0 0 0 0 0 0 W hd (by have := H3.out.2.2.2.1; omega) hL).mono ?_
      rintro e w' ⟨hb, he⟩
      rw [if_pos hdo.1] at he
      exact ⟨he, hb⟩)
    have GOF : Hid (∀ W a mk mw, DvAt W (fun _ => True) a mk mw s3 → Calls Tryd.prog 20 #[.pointer (some ⟨a, 0, none⟩)] W (Sec.Leaves (fun _ => True) a mk mw W s3.down (.tuple #[]))) := Lib.hid (fun W a mk mw hd => off_any (fun _ => True) a mk mw s3 W hd (by have := H3.out.2.2.2.2; omega))
    have GJA := Lib.hid (fun W a mk mw hd => jopen_arg (fun _ => True) a mk mw s3.down W hd)
    generalize s3.down = s4 at GLD GOF GJA
    clear hdo
    generalize hp0 : placesV.toArray = PV at GP GL3 GLD
    have HP0 := Lib.hid hp0
    clear hp0 hL
    rcases HCS.out with ⟨rfl, dz, rfl, rfl⟩ | ⟨rfl, dz, rfl, rfl⟩ | ⟨dz, rfl, rfl⟩
    all_goals
      clear HCS
      go_upto_region 14 with fail
      rw [H10.out]
      clear H10 dz
      go_upto_region 17 with (first
        | (go_at_call 14; refine (GB.out _ a mk mw _ _ T10.d HP).mono ?_; rintro e w11 ⟨rfl, D11, t11⟩; have T11 := T10.turn D11 t11; have HP11 := (T10.d.d.holds t11 HP (Nat.le_refl _)).more t11.size; have R11 := block_range T11.x)
        | (have _t := R11; refine wpList_load_midV (by rfl) _ _ rfl q 0 rfl L8 R11 Tryd.underlying31 rfl (by rw [HL8.out]; kernel_rfl) ?_)
        | (have _t := R11; go_at_call 15; refine (GY.out _ _ _ _ T11.r HP11).mono ?_; clear _t; rintro e w12 ⟨v12, rfl, r12, hb12⟩; obtain ⟨L12, rfl, l12, o12, n12, r12⟩ := rdv_list r12; have T12 := T11.below hb12)
        | (have _t := T12; refine wpList_store_blk rfl _ _ _ rfl (ds := L12) T12.x rfl rfl (by rw [l12]; exact T12.l.symm) (by rw [l12]; kernel_rfl) o12 ?_; clear _t; intro w13 N13 g13; have T13 := T12.stored l12 n12 r12 N13 g13; clear N13 g13 T12 r12)
        | (go_at_call 17; (with_reducible refine (GP.out _).mono ?_); rintro e w14 ⟨rfl, hb14⟩; have T14 := T13.below hb14)
        | (have _t := T14; go_at_call 16; (with_reducible refine (GL3.out _ a mk mw T14.d.d (HLA.out.below T14.d.b)).mono ?_); clear _t; rintro e w15 ⟨j', p0', p1', rfl, hb15, U15⟩; have T15 := T14.below hb15))
      have hw3 := whole_of T15.d.d
      have B15 := T15.d.b
      have R15 := block_range T15.x
      have HLL := Lib.hid T15.l
      have GQ := Lib.hid (fun d os => GLS.out _ j' p0' p1' hw3 (U15.below (below_regrown w15 d os)))
      have GR := Lib.hid (fun d os => HN9.out _ _ (T15.r.below (below_regrown w15 d os)) hw3)
      have HN := HNE.out hw3
      clear hw3 GLS HN9 HNE
      generalize (lastF s3.read).cells = Y at *
      refine wp_region_quiet_below (by kernel_rfl) (by kernel_rfl) ?_
      repeat (go_big_quiet_step (fail))
      go_big_quiet_step (exact Calls.regrown_of (GQ.out _ _))
      refine wpQuiet_step (fun K hK => ?_)
      refine qload_row (by rfl) 31 _ (by rfl) q 0 (by rfl) L12 _ (qrange R15) Tryd.underlying31 (by rfl) (by rw [HLL.out]; kernel_rfl) ?_
      go_simp
      refine hK _ ?_
      clear hK K
      go_big_quiet_step (exact Calls.regrown_of (GR.out _ _))
      repeat (go_big_quiet_step (fail))
      refine wpQuiet_nil ?_
      intro _ hw'
      obtain ⟨⟨dq, osq⟩, hw''⟩ := hw'
      have hbq := below_regrown w15 dq osq
      subst hw''
      have T16 := T15.below hbq
      generalize Go.Sort.grow (redrawn w15 dq) osq = w16 at *
      clear R15 GQ GR HN T15 U15 hbq B15 T14 hb14 T13 hb15
      go_wp2_with (first
        | (go_at_call 20; (with_reducible refine (GOF.out _ a mk mw T16.d.d).mono ?_); rintro e w17 ⟨rfl, D17, t17⟩; have E17 := T16.d.turn D17 t17)
        | (go_at_call 17; (with_reducible refine (GP.out _).mono ?_); rintro e w18 ⟨rfl, hb18⟩; have E18 := E17.below hb18)
        | (have _t := E18; go_at_call 16; (with_reducible refine (GLD.out _ a mk mw E18.d (HLA.out.below E18.b)).mono ?_); rintro e w19 ⟨rfl, hb19⟩; have E19 := E18.below hb19; clear _t E18)
        | (have _t := E19; go_at_call 16; refine (GJA.out _ a mk mw E19.d).mono ?_; rintro e w20 ⟨rfl, hb20⟩; have E20 := E19.below hb20; have B20 := E20.b; clear _t E19)
        | (have _t := E20; go_at_call 9; (with_reducible refine (GA.out _ B20).mono ?_); rintro e w21 ⟨rfl, hb21⟩))
      go_ret
      exact ⟨rfl, B20.trans (hb21.mono B20.size)⟩
end Go.Proofs.YtpnodocjpedcmaaDoor.JournalOpens
