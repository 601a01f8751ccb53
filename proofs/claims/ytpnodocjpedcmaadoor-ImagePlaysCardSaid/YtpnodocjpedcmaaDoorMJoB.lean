/-
  Layer 24, journal: Open: contract. Conditions: as each theorem names.
-/
import Derived.Test.YtpnodocjpedcmaaDoorMGIays29
namespace Go.Proofs.YtpnodocjpedcmaaDoor.Jr
open Go.ChangeShapes Go.WideShapes Go.ChangeAt Go.RowKit Go.Proofs.YtpnodocjpedcmaaDoor.Kit Go.Proofs.YtpnodocjpedcmaaDoor.Sec
open Go.Proofs.YtpnodocjpedcmaaDoor.Sha (LaidS)
open Go.Proofs.YtpnodocjpedcmaaDoor.Pt (PartAt Lies IsThere)

theorem cases_of (E q u : Int) (f : Bool) (n : Nat) (m : Int) (hm1 : m = n) : (E ≠ 0 ∧ (E == 0) = false) ∨ (E = 0 ∧ (E == 0) = true ∧ ((q % 2 ≠ n ∧ (q % 2 == m) = false) ∨ (q % 2 = n ∧ (q % 2 == m) = true ∧ (f = false ∨ (f = true ∧ ((u < q ∧ decide (u < q) = true) ∨ (¬ u < q ∧ decide (u < q) = false))))))) := by
  by_cases a1 : E = 0
  · refine Or.inr ⟨a1, by simp [a1], ?_⟩
    by_cases a2 : q % 2 = n
    · refine Or.inr ⟨a2, by rw [hm1]; simp [a2], ?_⟩
      cases f
      · exact Or.inl rfl
      · refine Or.inr ⟨rfl, ?_⟩
        by_cases a3 : u < q
        · exact Or.inl ⟨a3, by simpa using a3⟩
        · exact Or.inr ⟨a3, by simpa using a3⟩
    · exact Or.inl ⟨a2, by rw [hm1]; simpa using a2⟩
  · exact Or.inl ⟨a1, by simpa using a1⟩
def Opens (a : Nat) (s : Dv) (w : World) (e : Ending) (w' : World) : Prop :=
  Below w.heap.size w w' ∧ if s.off = true then e = .returned (.tuple #[.pointer none, .int .i64 8]) else ∃ j p0 p1, w.heap.size ≤ j ∧ e = .returned (.tuple #[.pointer (some ⟨j, 0, none⟩), .int .i64 0]) ∧ JAt w' j a p0 p1 (lastF s.read)

set_option maxRecDepth 100000 in
set_option maxHeartbeats 12800000 in
theorem jopen_any (I : Nat → Prop) (a mk mw : Nat) (s : Dv) (z0 z1 z2 z3 z4 z5 z6 : Int) (w : World) (h : DvAt w I a mk mw s) (hc : 2 ≤ s.count) (hL : LaidS w) :
    Calls Tryd.prog 16 #[.pointer (some ⟨a, 0, none⟩), .agg #[.int .i64 0, .int .i64 1, .int .i64 1, .int .i64 1, .int .i64 z0, .int .i64 z1, .int .i64 z2, .int .i64 z3, .int .i64 z4, .int .i64 z5, .int .i64 z6]] w (Opens a s w) := by
  have GP : Hid (∀ W F C, IsThere s.count F C → DvAt W I a mk mw s → Calls Tryd.prog 48 #[.pointer (some ⟨a, 0, none⟩), .agg #[.int .i64 F, .int .i64 C]] W fun e w' => ∃ p, W.heap.size ≤ p ∧ e = .returned (.tuple #[.pointer (some ⟨p, 0, none⟩), .int .i64 0]) ∧ PartAt w' p a F C ∧ Below W.heap.size W w') := Lib.hid (fun W F C hi hd => by
    have hc := hd.ok.c2
    unfold IsThere at hi
    refine (Pt.open_any I a mk mw F C s W hd (by omega) (by omega)).mono fun e w' ⟨h1, h2, _⟩ => ?_
    obtain ⟨p, hp, he, hP⟩ := h2 hi
    exact ⟨p, hp, he, hP, h1⟩)
  have GO0 := Lib.hid (fun W => GP.out W 0 1 (by unfold IsThere; omega))
  have GO1 := Lib.hid (fun W => GP.out W 1 1 (by unfold IsThere; omega))
  have HW : Hid (∀ V, Below w.heap.size w V → DvAt V I a mk mw s) := Lib.hid (fun V hb => h.below hb)
  have HB := Lib.hid (fun W => journal_build a W)
  have HLS : Hid (∀ V, Below w.heap.size w V → LaidS V) := Lib.hid (fun V hb => hL.below hb)
  have hsz := h.ok.s1
  have hwh := Pt.whole_of h
  have HR0 := Lib.hid (rec0.cells_length rfl)
  have h0 := Lib.hid h
  have i0 : ∀ w, (Instr.index 43 (.agg #[.int .i64 0, .int .i64 1, .int .i64 1, .int .i64 1]) (.int .i64 0)).run Tryd.prog w = .ok (.agg #[.int .i64 0, .int .i64 1]) w := fun _ => by kernel_rfl
  have i1 : ∀ w, (Instr.index 43 (.agg #[.int .i64 0, .int .i64 1, .int .i64 1, .int .i64 1]) (.int .i64 1)).run Tryd.prog w = .ok (.agg #[.int .i64 1, .int .i64 1]) w := fun _ => by kernel_rfl
  have B0 : Below w.heap.size w (w.alloc (.cells #[.int .i64 0, .int .i64 1, .int .i64 1, .int .i64 1, .int .i64 z0, .int .i64 z1, .int .i64 z2, .int .i64 z3, .int .i64 z4, .int .i64 z5, .int .i64 z6] 45)) := (Below.refl _ _).alloc (Nat.le_refl _) _
  obtain ⟨V0, hV0⟩ : ∃ V0, V0 = w.alloc (.cells #[.int .i64 0, .int .i64 1, .int .i64 1, .int .i64 1, .int .i64 z0, .int .i64 z1, .int .i64 z2, .int .i64 z3, .int .i64 z4, .int .i64 z5, .int .i64 z6] 45) := ⟨_, rfl⟩
  have M0 : Block V0 w.heap.size 45 #[.int .i64 0, .int .i64 1, .int .i64 1, .int .i64 1, .int .i64 z0, .int .i64 z1, .int .i64 z2, .int .i64 z3, .int .i64 z4, .int .i64 z5, .int .i64 z6] := by rw [hV0]; exact Block.new w _ _
  have zV : V0.heap.size = w.heap.size + 1 := by rw [hV0]; simp
  rw [← hV0] at B0
  have X1 : JBlk (V0.alloc (.cells (jL a (.pointer none) (.pointer none) rec0.cells).toArray 107)) V0.heap.size a (.pointer none) (.pointer none) rec0.cells := Block.new V0 _ _
  have B1 := B0.alloc B0.size (.cells (jL a (.pointer none) (.pointer none) rec0.cells).toArray 107)
  have M1 := M0.alloc (.cells (jL a (.pointer none) (.pointer none) rec0.cells).toArray 107)
  obtain ⟨LJ, hLJ⟩ : ∃ LJ, jL a (.pointer none) (.pointer none) rec0.cells = LJ := ⟨_, rfl⟩
  rw [hLJ] at HB X1 B1 M1
  obtain ⟨V1, hV1⟩ : ∃ V1, V1 = V0.alloc (.cells LJ.toArray 107) := ⟨_, rfl⟩
  rw [← hV1] at X1 B1 M1
  obtain ⟨j, hj⟩ : ∃ j, j = V0.heap.size := ⟨_, rfl⟩
  have zV1 : V1.heap.size = j + 1 := by rw [hV1, hj]; simp
  rw [← hj] at X1
  have hwj : w.heap.size ≤ j := by omega
  have m0 := M1.cell 0
  have m1 := M1.cell 1
  have m2 := M1.cell 2
  have m3 := M1.cell 3
  simp at m0 m1 m2 m3
  have HV0 := Lib.hid hV0
  have HV1 := Lib.hid hV1
  have HJ := Lib.hid hj
  clear GP h hL B0 M0 zV hLJ hV0 hV1 hj
  go_enter Tryd.func16, Tryd.ntmps16
  go_upto_region 1 with fail
  rw [← HV0.out]
  go_upto_region 2 with (refine wpList_build_known rfl _ _ rfl (.agg LJ.toArray) ?_ ?_; (intro W; have hw9 := HB.out W; simpa [Act.eval] using hw9))
  rw [← HV1.out, ← HJ.out]
  clear HV0 HV1 HJ
  go_wp2_with fail
  refine wp_loop_rounds 3 ?_
  rw [rounds_succ]
  have D1 := HW.out _ B1
  have B2 := B1.alloc B1.size (.cells #[.int .i64 0, .int .i64 1] 42)
  have D2 := HW.out _ B2
  have X2 := X1.alloc (.cells #[.int .i64 0, .int .i64 1] 42)
  have c1 := X2.c1
  have f1 := X2.free 1
  go_wp2_with (go_at_call 48; (with_reducible refine (GO0.out _ D2).mono ?_); rintro e y0 ⟨p0, hp0, rfl, P0, hb0⟩; clear c1 f1; have X3 := X2.below hb0; have c1 := X3.c1; have f1 := X3.free 1)
  have zy : j + 1 < y0.heap.size := by
    have := hb0.size
    have z2 : (V1.alloc (.cells #[.int .i64 0, .int .i64 1] 42)).heap.size = j + 2 := by simp [zV1]
    omega
  have hp0j : j + 2 ≤ p0 := by
    have z2 : (V1.alloc (.cells #[.int .i64 0, .int .i64 1] 42)).heap.size = j + 2 := by simp [zV1]
    omega
  have X4 := X3.put1 (.pointer (some ⟨p0, 0, none⟩))
  have B4 : Below w.heap.size w (y0.setCell ⟨j, 1, none⟩ (.pointer (some ⟨p0, 0, none⟩))) := (B2.trans (hb0.mono B2.size)).setCell hwj _
  have P0 : PartAt (y0.setCell ⟨j, 1, none⟩ (.pointer (some ⟨p0, 0, none⟩))) p0 a 0 1 := Block.far P0 (by show p0 ≠ j; omega) _
  obtain ⟨V2, hV2⟩ : ∃ V2, V2 = y0.setCell ⟨j, 1, none⟩ (.pointer (some ⟨p0, 0, none⟩)) := ⟨_, rfl⟩
  rw [← hV2] at X4 B4 P0 ⊢
  clear hV2 c1 f1 X3 X2 D2 B2 hb0 X1 B1 D1 M1
  have B5 := B4.alloc B4.size (.cells #[.int .i64 1, .int .i64 1] 42)
  have D5 := HW.out _ B5
  have X5 := X4.alloc (.cells #[.int .i64 1, .int .i64 1] 42)
  have P05 : PartAt (V2.alloc (.cells #[.int .i64 1, .int .i64 1] 42)) p0 a 0 1 := Block.alloc P0 _
  have zj := X5.lt
  have c2 := X5.c2
  have f2 := X5.free 2
  rw [rounds_succ]
  go_wp2_with (go_at_call 48; (with_reducible refine (GO1.out _ D5).mono ?_); rintro e y1 ⟨p1, hp1, rfl, P1, hb1⟩; clear c2 f2; have X6 := X5.below hb1; have c2 := X6.c2; have f2 := X6.free 2)
  have hp1j : p1 ≠ j := by omega
  have X7 := X6.put2 (.pointer (some ⟨p1, 0, none⟩))
  have B7 : Below w.heap.size w (y1.setCell ⟨j, 2, none⟩ (.pointer (some ⟨p1, 0, none⟩))) := (B5.trans (hb1.mono B5.size)).setCell hwj _
  have P07 : PartAt (y1.setCell ⟨j, 2, none⟩ (.pointer (some ⟨p1, 0, none⟩))) p0 a 0 1 := Block.far (Block.below P05 hb1 (Block.lt P05)) (by show p0 ≠ j; omega) _
  have P17 : PartAt (y1.setCell ⟨j, 2, none⟩ (.pointer (some ⟨p1, 0, none⟩))) p1 a 1 1 := Block.far P1 (by show p1 ≠ j; exact hp1j) _
  have G7 : JGo w (y1.setCell ⟨j, 2, none⟩ (.pointer (some ⟨p1, 0, none⟩))) I a mk mw j p0 p1 s rec0 := ⟨HW.out _ B7, B7, ⟨X7, P07, P17⟩, hwj⟩
  obtain ⟨V3, hV3⟩ : ∃ V3, V3 = y1.setCell ⟨j, 2, none⟩ (.pointer (some ⟨p1, 0, none⟩)) := ⟨_, rfl⟩
  rw [← hV3] at G7 ⊢
  clear hV3 X7 B7 P07 P17 X6 c2 f2 P05 P0 X5 B5 D5 X4 B4 hb1 P1 hp1 hp0 zj zy zV1 hp0j hp1j m0 m1 m2 m3 i0 i1 GO0 GO1 HB
  rw [rounds_succ]
  have GI := Lib.hid (isOn_any I a mk mw s V3 G7.d)
  cases hoff : s.off with
  | true =>
    rw [hoff] at GI
    have HOF := Lib.hid hoff
    clear hoff
    go_wp2_with (go_at_call 41; (with_reducible refine GI.out.mono ?_); rintro e w' ⟨rfl, rfl⟩)
    go_ret2
    refine ⟨G7.b, ?_⟩
    rw [if_pos HOF.out]
    rfl
  | false =>
    rw [hoff] at GI
    have HOF := Lib.hid hoff
    clear hoff
    have c1 := G7.at_.j.c1
    have c2 := G7.at_.j.c2
    have i0 : ∀ w, (Instr.index 105 (.agg #[.pointer (some ⟨p0, 0, none⟩), .pointer (some ⟨p1, 0, none⟩)]) (.int .i64 0)).run Tryd.prog w = .ok (.pointer (some ⟨p0, 0, none⟩)) w := fun _ => by kernel_rfl
    have i1 : ∀ w, (Instr.index 105 (.agg #[.pointer (some ⟨p0, 0, none⟩), .pointer (some ⟨p1, 0, none⟩)]) (.int .i64 1)).run Tryd.prog w = .ok (.pointer (some ⟨p1, 0, none⟩)) w := fun _ => by kernel_rfl
    go_wp2_with (go_at_call 41; (with_reducible refine GI.out.mono ?_); rintro e w' ⟨rfl, rfl⟩)
    clear c1 c2 GI
    have GPR : Hid (∀ (n p : Nat) (W : World) (r : Rec), ((n = 0 ∧ p = p0) ∨ (n = 1 ∧ p = p1)) → JGo w W I a mk mw j p0 p1 s r → Calls Tryd.prog 49 #[.pointer (some ⟨p, 0, none⟩), .int .i64 0, .int .i64 99] W fun e w' => ∃ (A : Option Addr) (c : Nat) (E : Int), e = .returned (.tuple #[.slice A (rowF s.read n).length c, .int .i64 E]) ∧ (rowF s.read n).length ≤ c ∧ c ≤ maxLen ∧ Holds w' w'.heap.size .u8 A (rowF s.read n) ∧ Below W.heap.size W w') := Lib.hid (fun n p W r hn G => by
      have hl : Lies s n 1 s.size := ⟨by omega, by omega, by omega, by omega⟩
      have key : ∀ p, PartAt W p a n 1 → Calls Tryd.prog 49 #[.pointer (some ⟨p, 0, none⟩), .int .i64 0, .int .i64 99] W fun e w' => ∃ (A : Option Addr) (c : Nat) (E : Int), e = .returned (.tuple #[.slice A (rowF s.read n).length c, .int .i64 E]) ∧ (rowF s.read n).length ≤ c ∧ c ≤ maxLen ∧ Holds w' w'.heap.size .u8 A (rowF s.read n) ∧ Below W.heap.size W w' := by
        intro p hp
        refine (Pt.pread_any I p a mk mw n 1 s.size s 0 99 W hp G.d hl (by omega)).mono ?_
        rintro e w' ⟨q, hq, v, he, ho, hb⟩
        rw [pread_rowF hsz hwh (by omega) hq] at ho
        obtain ⟨A, c, rfl, h1, h2, h3⟩ := ho.opened
        exact ⟨A, c, q.2, he, h1, h2, h3, hb⟩
      rcases hn with ⟨rfl, rfl⟩ | ⟨rfl, rfl⟩
      · exact key p G.at_.p0
      · exact key p G.at_.p1)
    have GGT : Hid (∀ (n : Nat) (W : World) (A : Option Addr) (c : Nat), Below w.heap.size w W → (rowF s.read n).length ≤ c → c ≤ maxLen → Holds W W.heap.size .u8 A (rowF s.read n) → Calls Tryd.prog 50 #[.slice A (rowF s.read n).length c] W (GetsR (getV (rowF s.read n)) (getE (rowF s.read n)) W)) := Lib.hid (fun n W A c hb hc hm hr => jget_any A _ c W hc hm (by have := (rowF_octets hwh n).2; omega) (rowF_octets hwh n).1 hr (HLS.out W hb))
    go_loopw [49, 11] (fun k f W => ∃ n : Nat, n ≤ 2 ∧ k = .int .i64 n ∧ f = .bool (upto s.read n).2 ∧ JGo w W I a mk mw j p0 p1 s (upto s.read n).1) (fun k _ _ => (2 - intOf k).toNat)
    case atStart => exact ⟨0, by omega, rfl, rfl, G7⟩
    case round =>
      obtain ⟨n, hn, rfl, rfl, G⟩ := hrel
      by_cases hlt : n < 2
      case neg =>
        obtain rfl : n = 2 := by omega
        have d1 : decide (((2 : Nat) : Int) < 2) = false := by decide
        go_wp2_with fail
        go_ret2
        refine ⟨G.b, ?_⟩
        rw [if_neg (by rw [HOF.out]; simp)]
        exact ⟨j, p0, p1, hwj, rfl, G.at_⟩
      case pos =>
        have hro := upto_ok hwh n
        have hok := getV_ok (rowF_octets hwh n).1
        have HY1 : Hid (((getE (rowF s.read n) = 0 ∧ (getV (rowF s.read n)).seq % 2 = n) ∧ ((upto s.read n).2 = false ∨ (upto s.read n).1.seq < (getV (rowF s.read n)).seq)) → upto s.read (n + 1) = (getV (rowF s.read n), true)) := Lib.hid (fun c => by
          show stepF s.read (upto s.read n) n = _
          unfold stepF
          rw [if_pos ⟨⟨c.1.1, c.1.2⟩, c.2⟩])
        have HY2 : Hid (¬ ((getE (rowF s.read n) = 0 ∧ (getV (rowF s.read n)).seq % 2 = n) ∧ ((upto s.read n).2 = false ∨ (upto s.read n).1.seq < (getV (rowF s.read n)).seq)) → upto s.read (n + 1) = ((upto s.read n).1, (upto s.read n).2)) := Lib.hid (fun c => by
          show stepF s.read (upto s.read n) n = _
          unfold stepF
          rw [if_neg (fun x => c ⟨⟨x.1.1, x.1.2⟩, x.2⟩)])
        obtain ⟨p, m, hpm⟩ : ∃ (p : Nat) (m : Int), (n = 0 ∧ p = p0 ∧ m = 0) ∨ (n = 1 ∧ p = p1 ∧ m = 1) := by
          have : n = 0 ∨ n = 1 := by omega
          rcases this with e | e
          · exact ⟨p0, 0, Or.inl ⟨e, rfl, rfl⟩⟩
          · exact ⟨p1, 1, Or.inr ⟨e, rfl, rfl⟩⟩
        have hp : (n = 0 ∧ p = p0) ∨ (n = 1 ∧ p = p1) := hpm.imp (fun h => ⟨h.1, h.2.1⟩) (fun h => ⟨h.1, h.2.1⟩)
        have hm1 : m = n := by
          rcases hpm with ⟨rfl, _, rfl⟩ | ⟨rfl, _, rfl⟩ <;> rfl
        have GP9 := Lib.hid (GPR.out n p wr (upto s.read n).1 hp G)
        have GG9 := Lib.hid (fun W A c => GGT.out n W A c)
        have HL := Lib.hid ((getV (rowF s.read n)).cells_length hok.man)
        have HO := Lib.hid (getV (rowF s.read n)).cells_one
        have HU := Lib.hid ((upto s.read n).1.cells_length hro.man)
        have hq := hok.seq
        have hu := hro.seq
        have HC0 : Hid ((getV (rowF s.read n)).cells[0]? = some (.int .u64 (getV (rowF s.read n)).seq)) := Lib.hid rfl
        have HU0 : Hid ((upto s.read n).1.cells[0]? = some (.int .u64 (upto s.read n).1.seq)) := Lib.hid rfl
        clear hro hok GPR GGT
        generalize (upto s.read n).1 = l at *
        generalize (upto s.read n).2 = f at *
        generalize getV (rowF s.read n) = r at *
        generalize getE (rowF s.read n) = E at *
        generalize rowF s.read n = xs at *
        have HM1 := Lib.hid hm1
        clear hm1 hp
        rcases hpm with ⟨rfl, rfl, rfl⟩ | ⟨rfl, rfl, rfl⟩
        all_goals
          go_upto_region 18 with (first
            | (go_at_call 49; (with_reducible refine GP9.out.mono ?_); rintro e w1 ⟨A1, k1, E1, rfl, g1, g2, g3, hb1⟩; have G1 := G.below hb1)
            | (go_at_call 50; (with_reducible refine (GG9.out _ A1 k1 G1.b g1 g2 g3).mono ?_); rintro e w2 ⟨rfl, hb2⟩; have G2 := G1.below hb2)
            | (have _t := G2; refine wpList_store_blk rfl _ _ _ rfl (ds := r.cells) (Block.new w2 50 rec0.cells.toArray) rfl rfl (by rw [HL.out]; rfl) (by rw [HL.out]; kernel_rfl) HO.out ?_; clear _t; intro w6 N6 g6; have G6 := G2.below ((below_last w2 _).trans (below_of_grown g6 (below_last w2 _).size fun b hb => by injection hb with hb; omega))))
          have n0 : w6.cell? ⟨w2.heap.size, 0, none⟩ = some (.int .u64 r.seq) := (Block.cell N6 0).trans (by simpa using HC0.out)
          have n3 : w6.cell? ⟨j, 3, none⟩ = some (.int .u64 l.seq) := (G6.at_.j.c3 0).trans HU0.out
          have hmm : r.seq.tmod 2 = r.seq % 2 := Int.tmod_eq_emod_of_nonneg (by omega)
          have GW6 := Lib.hid G6
          have HN6 := Lib.hid N6
          clear g6 G6 N6 G2 hb2 hb1 G1 g1 g2 g3 HC0 HU0 G GP9 GG9 HW HLS G7 P0 i0 i1
          generalize r.seq = q at *
          generalize l.seq = u at *
          have hcs := cases_of E q u f _ _ HM1.out
          clear HM1
          rcases hcs with ⟨b1, e1⟩ | ⟨b1, e1, ⟨b2, e2⟩ | ⟨b2, e2, b3 | ⟨b3, ⟨b4, e4⟩ | ⟨b4, e4⟩⟩⟩⟩
          case' inl => have HY := Lib.hid (HY2.out (fun c => b1 c.1.1))
          case' inr.inl => have HY := Lib.hid (HY2.out (fun c => b2 c.1.2))
          case' inr.inr.inl => have HY := Lib.hid (HY1.out ⟨⟨b1, b2⟩, Or.inl b3⟩); subst b3
          case' inr.inr.inr.inl => have HY := Lib.hid (HY1.out ⟨⟨b1, b2⟩, Or.inr b4⟩); subst b3
          case' inr.inr.inr.inr => have HY := Lib.hid (HY2.out (fun c => c.2.elim (fun c => absurd (b3.symm.trans c) (by decide)) b4)); subst b3
          all_goals
            first
              | clear b1 b2 b4
              | clear b1 b2
              | clear b1
            clear HY1 HY2
            go_quiet (fail)
            clear hmm n0 n3
            have G9 := GW6.out.below (below_draws (Below.refl _ _) nq)
            have N9 : Block (w6.drewN nq) w2.heap.size 50 r.cells.toArray := HN6.out.drewN nq
            have R9 := block_range N9
            clear HN6 N9
            generalize w6.drewN nq = w9 at *
            go_wp2_with (first
              | (refine wpList_load_midV (by rfl) _ _ rfl w2.heap.size 0 rfl r.cells R9 Tryd.underlying50 rfl (by rw [HL.out]; kernel_rfl) ?_)
              | (have _t := G9; refine wpList_store_last rfl _ _ _ rfl G9.at_.j HU.out HL.out rfl rfl (by kernel_rfl) HO.out ?_; clear _t; intro w10 X10 g10; have G10 := G9.stored h0.out X10 g10; clear g10 X10))
            first
              | (have GE := G10; clear G10)
              | (have GE := G9; clear G9)
            go_roundw
            case rel => first | (refine ⟨0 + 1, by omega, by go_num, ?_, ?_⟩ <;> rw [HY.out]; exact GE) | (refine ⟨1 + 1, by omega, by go_num, ?_, ?_⟩ <;> rw [HY.out]; exact GE)
            case measure => simp [intOf] <;> omega
end Go.Proofs.YtpnodocjpedcmaaDoor.Jr
