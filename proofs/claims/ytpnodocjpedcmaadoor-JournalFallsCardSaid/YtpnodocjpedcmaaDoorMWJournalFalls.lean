/-
  JournalFalls: the walk: whatever falls while a record is written, and whatever becomes of its sector, the last one is then that one, or the one ahead of it.
-/
import Derived.Test.YtpnodocjpedcmaaDoorMGJlls24
namespace Go.Proofs.YtpnodocjpedcmaaDoor.JournalFalls
open Go.ChangeShapes Go.WideShapes Go.ChangeAt Go.RowKit Go.Proofs.YtpnodocjpedcmaaDoor.Kit Go.Proofs.YtpnodocjpedcmaaDoor.Jr
open Go.Proofs.YtpnodocjpedcmaaDoor.Sec (new_any Dev Dv DvAt DSet Sl NewDev fuse_any back_any)
open Go.Proofs.YtpnodocjpedcmaaDoor.Sha (LaidS)

theorem range_below {w w' : World} {B b f : Nat} {cs : List Value} (h : w.rangeAt b f cs) (hb : Below B w w') (hlt : b < B) : w'.rangeAt b f cs :=
  fun j v hj => (hb.cell (p := ⟨b, f + j, none⟩) hlt).trans (h j v hj)

set_option maxRecDepth 100000 in
set_option maxHeartbeats 12800000 in
theorem walk (A : Option Addr) (rs : List Rec) (c : Nat) (x0 : Rec) (f : Int) (Ap : Option Addr) (ps : List Int) (cp : Nat) (w : World) (hl : rs.length ≤ c) (hmx : c ≤ maxLen) (hr : HoldsE RecIn 44 w w.heap.size A rs) (hx0 : x0.Ok) (_ : True) (hf : (Lit.int .i64 f).wf = true)
    (hlp : ps.length ≤ cp) (hmp : cp ≤ maxLen) (hop : Octets ps) (hrp : Holds w w.heap.size .u8 Ap ps) (hL : LaidS w) :
    Calls Tryd.prog 5 #[.slice A rs.length c, .agg x0.cells.toArray, .int .i64 f, .slice Ap ps.length cp] w fun e w' => e = .returned (.bool true) ∧ Below w.heap.size w w' := by
  have hf := bounds_i64 hf
  have B0 := below_last w (.cells x0.cells.toArray 50)
  have X0 : Block (w.alloc (.cells x0.cells.toArray 50)) w.heap.size 50 x0.cells.toArray := Block.new w _ _
  have GA := Lib.hid (fun W hB => Jr.awake_any W (hL.below hB))
  have GN := Lib.hid (fun W => new_any (fun _ => True) 128 4 W (by decide) (by decide) (by decide) (by decide))
  have GP := Lib.hid (fun W => places_any W)
  have GO : Hid (∀ W a mk mw, Dev w W a mk mw (Dv.new 128 4) → Calls Tryd.prog 16 #[.pointer (some ⟨a, 0, none⟩), .agg placesV.toArray] W fun e w' => ∃ j p0 p1, e = .returned (.tuple #[.pointer (some ⟨j, 0, none⟩), .int .i64 0]) ∧ Below W.heap.size W w' ∧ JDev w w' a mk mw j p0 p1 (Dv.new 128 4) rec0) := Lib.hid (fun W a mk mw h => by
    refine (Jr.jopen_any (fun _ => True) a mk mw (Dv.new 128 4) 0 0 0 0 0 0 0 W h.d (by decide) (hL.below h.b)).mono ?_
    rintro e w' ⟨hb, he⟩
    rw [if_neg (by decide)] at he
    obtain ⟨j, p0, p1, hj0, he, hj⟩ := he
    rw [lastF_of (stands_new (by decide) (by decide))] at hj
    have := h.below hb
    exact ⟨j, p0, p1, he, hb, this.d, this.b, this.ga, this.gk, this.gw, Nat.le_trans h.b.size hj0, hj⟩)
  have HKS : Hid (∀ W a mk mw j p0 p1, JDev w W a mk mw j p0 p1 (Dv.new 128 4) rec0 → ∃ s0, KAt w W a mk mw j p0 p1 0 0 s0 rec0) := Lib.hid (fun W a mk mw j p0 p1 h => ⟨_, KAt.start h⟩)
  have HL0 := Lib.hid hL
  have HR := Lib.hid hr
  have HRP := Lib.hid hrp
  have HX0 : Hid (x0.cells[0]? = some (.int .u64 x0.seq)) := Lib.hid rfl
  have HSET : Hid (∀ v, x0.cells.toArray.setIfInBounds 0 (.int .u64 v) = (x0.num v).cells.toArray) := Lib.hid (fun v => cells_set0 x0 v)
  have HXO := Lib.hid hx0
  generalize hn0 : Dv.new 128 4 = m0 at GN GO HKS
  generalize hp0 : placesV.toArray = PV at GP GO
  have HP0 := Lib.hid hp0
  obtain ⟨L0, hL0⟩ : ∃ L, x0.cells = L := ⟨_, rfl⟩
  rw [hL0] at B0 X0 HX0 HSET ⊢
  obtain ⟨V0, hV0⟩ : ∃ V, V = w.alloc (.cells L0.toArray 50) := ⟨_, rfl⟩
  have HV0 := Lib.hid hV0
  rw [← hV0] at B0 X0
  clear hn0 hL hr hrp hL0 hx0 hV0 hp0
  have GNV : Hid (∀ e w1, NewDev (fun _ => True) m0 V0 e w1 → ∃ a mk mw, e = .returned (.tuple #[.pointer (some ⟨a, 0, none⟩), .int .i64 0]) ∧ Dev w w1 a mk mw m0 ∧ Block w1 w.heap.size 50 L0.toArray) := Lib.hid (by
    rintro e w1 ⟨a, mk, mw, rfl, D1, hb1, ga, gk, gw⟩
    exact ⟨a, mk, mw, rfl, ⟨D1, B0.trans (hb1.mono B0.size), Nat.le_trans B0.size ga, Nat.le_trans B0.size gk, Nat.le_trans B0.size gw⟩, Block.below X0 hb1 (Block.lt X0)⟩)
  clear B0 X0
  by_cases hg : rs.length ≤ 30 ∧ ps.length ≤ 60
  case neg =>
    have hd : decide ((30 : Int) < (rs.length : Int)) = true ∨ (decide ((30 : Int) < (rs.length : Int)) = false ∧ decide ((60 : Int) < (ps.length : Int)) = true) := by
      simp only [decide_eq_true_eq, decide_eq_false_iff_not]
      omega
    clear hg HKS
    rcases hd with d1 | ⟨d1, d2⟩
    all_goals
      go_enter Tryd.func5, Tryd.ntmps5
      go_upto_region 1 with fail
      rw [← HV0.out]
      go_wp2_with (first
        | (go_at_call 10; refine (GN.out _).mono ?_; intro e w1 h1; obtain ⟨a, mk, mw, rfl, E1, X1⟩ := GNV.out _ _ h1; clear h1)
        | (go_at_call 17; (with_reducible refine (GP.out _).mono ?_); rintro e w2 ⟨rfl, hb2⟩; have E2 := E1.below hb2)
        | (have _t := E2; go_at_call 16; (with_reducible refine (GO.out _ a mk mw E2).mono ?_); clear _t; rintro e w3 ⟨j, p0, p1, rfl, hb3, J3⟩; have B3 := J3.b)
        | (go_at_call 9; (with_reducible refine (GA.out _ B3).mono ?_); rintro e w4 ⟨rfl, hb4⟩))
      go_ret
      exact ⟨rfl, B3.trans (hb4.mono B3.size)⟩
  case pos =>
    have d1 : decide ((30 : Int) < (rs.length : Int)) = false := decide_eq_false (by omega)
    have d2 : decide ((60 : Int) < (ps.length : Int)) = false := decide_eq_false (by omega)
    go_enter Tryd.func5, Tryd.ntmps5
    go_upto_region 1 with fail
    rw [← HV0.out]
    go_wp2_with (first
      | (go_at_call 10; refine (GN.out _).mono ?_; intro e w1 h1; obtain ⟨a, mk, mw, rfl, E1, X1⟩ := GNV.out _ _ h1; clear h1)
      | (go_at_call 17; (with_reducible refine (GP.out _).mono ?_); rintro e w2 ⟨rfl, hb2⟩; have E2 := E1.below hb2; have X2 := Block.below X1 hb2 (Block.lt X1))
      | (have _t := E2; go_at_call 16; (with_reducible refine (GO.out _ a mk mw E2).mono ?_); clear _t; rintro e w3 ⟨j, p0, p1, rfl, hb3, J3⟩; have X3 := Block.below X2 hb3 (Block.lt X2)))
    obtain ⟨s0, K3⟩ := HKS.out _ _ _ _ _ _ _ J3
    clear HKS J3 E2 E1 GN GO d1 d2 hb2 hb3 X1 X2 GNV
    go_loopw [13] (fun i W => ∃ (n k : Nat) (s : Dv) (r : Rec), n ≤ rs.length ∧ i = .int .i64 n ∧ KAt w W a mk mw j p0 p1 n k s r ∧ Block W w.heap.size 50 L0.toArray) (fun i _ => rs.length - (intOf i).toNat)
    case atStart => exact ⟨0, 0, s0, rec0, Nat.zero_le _, rfl, K3, X3⟩
    case round =>
      obtain ⟨n, k, s, r, hn, rfl, K, X⟩ := hrel
      clear K3 X3
      by_cases hlt : n < rs.length
      case pos =>
        obtain ⟨b0, off, rfl, hb0, hra, hox⟩ := recAt (recs_below HR.out K.g.b) hlt
        obtain ⟨x, hx⟩ : ∃ x, rs[n] = x := ⟨_, rfl⟩
        rw [hx] at hra hox
        clear hx
        have d2 : decide (n < rs.length) = true := decide_eq_true hlt
        have d3 : decide ((n : Int) < (rs.length : Int)) = true := decide_eq_true (by omega)
        have d4 : (0 : Int) ≤ (n : Int) := by omega
        have d5 : (n : Int) < (rs.length : Int) := by omega
        have HLx := Lib.hid (x.cells_length hox.man)
        have hn9 : n ≤ 100 := by omega
        have GW : Hid (Calls Tryd.prog 21 #[.pointer (some ⟨j, 0, none⟩), .agg x.cells.toArray] wr fun e W' => ∃ E : Int, e = .returned (.int .i64 E) ∧ TurnsIn (JSet a mk mw j) wr W' ∧ ∃ (k' : Nat) (s' : Dv) (r' : Rec), KAt w W' a mk mw j p0 p1 (n + 1) k' s' r') := by
          cases hm : (x.num ((k : Int) + 1)).may with
          | false => exact Lib.hid ((kwrite_no K hn9 hox hm HL0.out).mono fun e W' ⟨he, hb⟩ => ⟨3, he, TurnsIn.ofNew hb, k, s, r, (K.dev (K.g.below hb)).more⟩)
          | true => exact Lib.hid ((kwrite_yes K hn9 hox hm HL0.out).mono fun e W' ⟨he, ht, s', hk⟩ => ⟨0, he, ht, k + 1, s', _, hk⟩)
        have HXX : Hid (∀ W', TurnsIn (JSet a mk mw j) wr W' → Block W' w.heap.size 50 L0.toArray) := Lib.hid (fun W' t => K.g.keeps t X (by decide) (by decide))
        clear K X hox
        generalize x.cells = Lx at *
        go_wp2_with (first
          | (refine wpList_load_midV (by rfl) _ _ rfl b0 (off + n * 44) rfl Lx hra Tryd.underlying50 rfl (by rw [HLx.out]; kernel_rfl) ?_)
          | (go_at_call 21; (with_reducible refine GW.out.mono ?_); rintro e w4 ⟨E4, rfl, T4, k4, s4, r4, K4⟩; have X4 := HXX.out _ T4))
        go_roundw
        case rel => exact ⟨n + 1, k4, s4, r4, hlt, by go_num, K4, X4⟩
        case measure => simp [intOf] <;> omega
      case neg =>
        obtain rfl : n = rs.length := by omega
        have d2 : decide (rs.length < rs.length) = false := decide_eq_false hlt
        have d3 : decide ((rs.length : Int) < (rs.length : Int)) = false := decide_eq_false (by omega)
        have hro := K.st.ok
        have hk := K.k
        have hks := K.st.seq
        have hw1 : IntKind.u64.wrap ((k : Int) + 1) = (k : Int) + 1 := IntWalk.u64_in _ (by omega)
        have hxo : (x0.num ((k : Int) + 1)).Ok := Rec.num_ok HXO.out (by omega) (by omega)
        have GL := Lib.hid (fun W (h : JDev w W a mk mw j p0 p1 s r) => last_dev h hro)
        have HLr := Lib.hid (r.cells_length hro.man)
        have HOr := Lib.hid r.cells_one
        have HR0 : Hid (r.cells[0]? = some (.int .u64 k)) := Lib.hid (by rw [← hks]; rfl)
        have HS0 := Lib.hid (HSET.out ((k : Int) + 1))
        have HLx := Lib.hid ((x0.num ((k : Int) + 1)).cells_length hxo.man)
        have HNX := Lib.hid (neq_same _ hxo.man)
        have HEX := Lib.hid (eql_same _ hxo.man)
        have HER := Lib.hid (eql_same _ hro.man)
        have HEB := Lib.hid (eql_rec (x0.num ((k : Int) + 1)) r hxo.man hro.man)
        have hn9 : rs.length ≤ 100 := by omega
        have hmo : ∀ W, JDev w W a mk mw j p0 p1 s r → KAt w W a mk mw j p0 p1 rs.length k s r := fun W g => K.dev g
        have GW : Hid (∀ W, JDev w W a mk mw j p0 p1 (s.fused f) r → Calls Tryd.prog 21 #[.pointer (some ⟨j, 0, none⟩), .agg (x0.num ((k : Int) + 1)).cells.toArray] W (Fell w a mk mw j p0 p1 r (x0.num ((k : Int) + 1)) W)) := Lib.hid (fun W g => fwrite_any K g hf.2 hn9 hxo rfl HL0.out)
        have hso := K.o
        have GF : Hid (∀ W, JDev w W a mk mw j p0 p1 s r → Calls Tryd.prog 23 #[.pointer (some ⟨a, 0, none⟩), .int .i64 f] W fun e W' => e = .returned (.tuple #[]) ∧ JDev w W' a mk mw j p0 p1 (s.fused f) r ∧ TurnsIn (JSet a mk mw j) W W') := Lib.hid (fun W g => (fuse_any _ a mk mw s f W g.d hf).mono fun e W' ⟨he, hd, ht⟩ => ⟨he, g.turn hd ht, TurnsIn.jd ht⟩)
        have GB : Hid (∀ (W : World) (s2 : Dv) (r2 : Rec), s2.offs ≤ 100 → JDev w W a mk mw j p0 p1 s2 r2 → Calls Tryd.prog 14 #[.pointer (some ⟨a, 0, none⟩), .slice Ap ps.length cp] W fun e W' => e = .returned (.tuple #[]) ∧ JDev w W' a mk mw j p0 p1 (s2.back ps) r2 ∧ TurnsIn (JSet a mk mw j) W W') := Lib.hid (fun W s2 r2 ho g => (back_any _ a mk mw s2 Ap ps cp W g.d (fun _ _ => trivial) (by omega) hop ((HRP.out.below g.b).more g.b.size) (by omega)).mono fun e W' ⟨he, hd, ht⟩ => ⟨he, g.turn hd ht, TurnsIn.jd ht⟩)
        have GOP : Hid (∀ (W : World) (s2 : Dv) (r2 y : Rec), s2.count = 4 → lastF (s2.back ps).read = y → JDev w W a mk mw j p0 p1 (s2.back ps) r2 → Calls Tryd.prog 16 #[.pointer (some ⟨a, 0, none⟩), .agg PV] W fun e w' => ∃ j' p0' p1', e = .returned (.tuple #[.pointer (some ⟨j', 0, none⟩), .int .i64 0]) ∧ Below W.heap.size W w' ∧ JAt w' j' a p0' p1' y ∧ JDev w w' a mk mw j p0 p1 (s2.back ps) r2) := Lib.hid (fun W s2 r2 y hc hy g => by
          obtain ⟨b1, _, _, b4, _⟩ := back_still (s := s2) ps
          have := open_dev g (by rw [b4, hc]; omega) b1 HL0.out
          rwa [hy, HP0.out] at this)
        have GLu : Hid (∀ W j' p0' p1' y (hy : y.Ok) (h : JAt W j' a p0' p1' y), Calls Tryd.prog 18 #[.pointer (some ⟨j', 0, none⟩)] W fun e w' => e = .returned (.agg y.cells.toArray) ∧ Below W.heap.size W w') := Lib.hid (fun W j' p0' p1' y hy h => last_any j' a p0' p1' y W h hy.man)
        have HRO := Lib.hid hro
        have HXO2 := Lib.hid hxo
        have G := K.g
        clear hro hxo hks hmo K HXO HSET
        generalize x0.num ((k : Int) + 1) = x at *
        go_upto_region 10 with (first
          | (go_at_call 18; (with_reducible refine (GL.out _ G).mono ?_); rintro e w1 ⟨rfl, hb1⟩; have G1 := G.below hb1; have X1 := Block.below X hb1 (Block.lt X))
          | (have _t := G1; refine wpList_store_blk rfl _ _ _ rfl (ds := r.cells) (Block.new w1 50 rec0.cells.toArray) rfl rfl (by rw [HLr.out]; rfl) (by rw [HLr.out]; kernel_rfl) HOr.out ?_; clear _t; intro w2 N2 g2; have b2 : Below w1.heap.size w1 w2 := (below_last w1 _).trans (below_of_grown g2 (below_last w1 _).size fun b hb => by injection hb with hb; omega); have G2 := G1.below b2; have X2 := Block.below X1 b2 (Block.lt X1); clear g2))
        obtain ⟨q2, hq2⟩ : ∃ q, w1.heap.size = q := ⟨_, rfl⟩
        have hq2w : w.heap.size < q2 := by rw [← hq2]; exact Block.lt X1
        rw [hq2] at N2
        try rw [hq2]
        clear hq2 b2 G1 X1 hb1 G X
        have n2 : w2.cell? ⟨q2, 0, none⟩ = some (.int .u64 k) := (Block.cell N2 0).trans (by simpa using HR0.out)
        have x2 : w2.cell? ⟨w.heap.size, 0, none⟩ = some (.int .u64 x0.seq) := (Block.cell X2 0).trans (by simpa using HX0.out)
        have f2 := Block.frozen X2 0
        have G3 := G2.beside X2 (Nat.le_refl _) 0 (.int .u64 ((k : Int) + 1))
        have X3 := Block.set_ X2 0 (.int .u64 ((k : Int) + 1))
        rw [HS0.out] at X3
        have N3 := Block.far N2 (p := ⟨w.heap.size, 0, none⟩) (by show q2 ≠ w.heap.size; omega) (.int .u64 ((k : Int) + 1))
        clear G2 N2 X2
        go_upto_region 11 with fail
        obtain ⟨w3, hw3⟩ : ∃ w3, w3 = w2.setCell ⟨w.heap.size, 0, none⟩ (.int .u64 ((k : Int) + 1)) := ⟨_, rfl⟩
        rw [← hw3] at G3 N3 X3 ⊢
        clear hw3 n2 f2 x2
        go_upto_region 13 with (first
          | (go_at_call 23; (with_reducible refine (GF.out _ G3).mono ?_); rintro e w4 ⟨rfl, G4, T4⟩; have N4 : Block w4 q2 50 r.cells.toArray := G3.keeps T4 N3 (by decide) (by decide); have X4 : Block w4 w.heap.size 50 x.cells.toArray := G3.keeps T4 X3 (by decide) (by decide); have R4 := block_range X4)
          | (have _t := R4; refine wpList_load_midV (by rfl) _ _ rfl w.heap.size 0 rfl x.cells R4 Tryd.underlying50 rfl (by rw [HLx.out]; kernel_rfl) ?_)
          | (have _t := R4; go_at_call 21; (with_reducible refine (GW.out _ G4).mono ?_); clear _t; rintro e w5 ⟨E, s2, r2, rfl, G5, T5, ho5, hc5, hfl⟩; have N5 : Block w5 q2 50 r.cells.toArray := G4.keeps T5 N4 (by decide) (by decide); have X5 : Block w5 w.heap.size 50 x.cells.toArray := G4.keeps T5 X4 (by decide) (by decide)))
        clear R4 G3 G4 N3 X3 T4 N4 X4 T5
        obtain ⟨y, hy⟩ : ∃ y, lastF (s2.back ps).read = y := ⟨_, rfl⟩
        have hyc := hfl ps
        rw [hy] at hyc
        have hyo : y.Ok := by
          rcases hyc.1 with e | e
          · rw [e]; exact HRO.out
          · rw [e]; exact HXO2.out
        have HB1 : ∃ b : Bool, (∀ W, (binOp .eql 50 (.agg y.cells.toArray) (.agg r.cells.toArray)).run Tryd.prog W = .ok (.bool b) W) ∧ (b = false → ∀ W, (binOp .eql 50 (.agg y.cells.toArray) (.agg x.cells.toArray)).run Tryd.prog W = .ok (.bool true) W) := by
          rcases hyc.1 with e | e
          · rw [e]; exact ⟨true, HER.out, fun h => by cases h⟩
          · rw [e]
            obtain ⟨b, hb⟩ := HEB.out
            exact ⟨b, hb, fun _ => HEX.out⟩
        obtain ⟨b, HE1, HE2⟩ := HB1
        have HE1 := Lib.hid HE1
        have HE2 := Lib.hid HE2
        have HN1 : Hid (E = 0 → ∀ W, (binOp .neq 50 (.agg y.cells.toArray) (.agg x.cells.toArray)).run Tryd.prog W = .ok (.bool false) W) := Lib.hid (fun h => by rw [hyc.2 h]; exact HNX.out)
        have HOP := Lib.hid (fun W (g : JDev w W a mk mw j p0 p1 (s2.back ps) r2) => GOP.out W s2 r2 y hc5 hy g)
        have GB5 := Lib.hid (fun W g => GB.out W s2 r2 ho5 g)
        have HLy := Lib.hid (fun W j' p0' p1' h => GLu.out W j' p0' p1' y hyo h)
        clear hyc hfl hy hyo GOP GB GLu HER HEB HEX HNX
        generalize y.cells = Ly at *
        go_upto_region 17 with (first
          | (go_at_call 14; (with_reducible refine (GB5.out _ G5).mono ?_); rintro e w6 ⟨rfl, G6, T6⟩; have N6 : Block w6 q2 50 r.cells.toArray := G5.keeps T6 N5 (by decide) (by decide); have X6 : Block w6 w.heap.size 50 x.cells.toArray := G5.keeps T6 X5 (by decide) (by decide))
          | (go_at_call 17; (with_reducible refine (GP.out _).mono ?_); rintro e w7 ⟨rfl, hb7⟩; have G7 := G6.below hb7; have N7 := Block.below N6 hb7 (Block.lt N6); have X7 := Block.below X6 hb7 (Block.lt X6))
          | (have _t := G7; go_at_call 16; (with_reducible refine (HOP.out _ G7).mono ?_); clear _t; rintro e w8 ⟨j', p0', p1', rfl, hb8, U8, G8⟩; have N8 := Block.below N7 hb8 (Block.lt N7); have X8 := Block.below X7 hb8 (Block.lt X7)))
        clear G5 N5 X5 G6 N6 X6 T6 hb7 G7 N7 X7 hb8
        have B8 := G8.b
        clear G8
        have RN8 := block_range N8
        have RX8 := block_range X8
        have GR := Lib.hid (fun d os => HLy.out _ j' p0' p1' (U8.below (below_regrown w8 d os)))
        have hec : (E = 0 ∧ (E == 0) = true) ∨ (E ≠ 0 ∧ (E == 0) = false) := by
          by_cases h : E = 0
          · exact Or.inl ⟨h, by simp [h]⟩
          · exact Or.inr ⟨h, by simpa using h⟩
        rcases hec with ⟨he, e1⟩ | ⟨he, e1⟩
        · have HN1 := HN1.out he
          clear he
          refine wp_region_quiet_below (by kernel_rfl) (by kernel_rfl) ?_
          repeat (go_big_quiet_step (fail))
          go_big_quiet_step (exact Calls.regrown_of (GR.out _ _))
          refine wpQuiet_step (fun K hK => ?_)
          refine qload_row (by rfl) 50 _ (by rfl) w.heap.size 0 (by rfl) x.cells _ (qrange RX8) Tryd.underlying50 (by rfl) (by rw [HLx.out]; kernel_rfl) ?_
          go_simp
          refine hK _ ?_
          clear hK K
          repeat (go_big_quiet_step (fail))
          refine wpQuiet_nil ?_
          intro _ hw'
          obtain ⟨⟨dqa, osqa⟩, hw''⟩ := hw'
          have hbqa := below_regrown w8 dqa osqa
          subst hw''
          have B9 := B8.trans (hbqa.mono B8.size)
          have U9 := U8.below hbqa
          have RN9 := block_range (Block.below N8 hbqa (Block.lt N8))
          have RX9 := block_range (Block.below X8 hbqa (Block.lt X8))
          generalize Go.Sort.grow (redrawn w8 dqa) osqa = w9 at *
          clear RN8 RX8 GR N8 X8 U8 hbqa B8 HN1
          have GR9 := Lib.hid (fun d os => HLy.out _ j' p0' p1' (U9.below (below_regrown w9 d os)))
          go_wp2_with fail
          have HE1 := HE1.out
          cases b with
          | true =>
            refine wp_region_quiet_below (by kernel_rfl) (by kernel_rfl) ?_
            repeat (go_big_quiet_step (fail))
            go_big_quiet_step (exact Calls.regrown_of (GR9.out _ _))
            refine wpQuiet_step (fun K hK => ?_)
            refine qload_row (by rfl) 50 _ (by rfl) q2 0 (by rfl) r.cells _ (qrange RN9) Tryd.underlying50 (by rfl) (by rw [HLr.out]; kernel_rfl) ?_
            go_simp
            refine hK _ ?_
            clear hK K
            repeat (go_big_quiet_step (fail))
            go_big_quiet_step (exact Calls.regrown_of (GA.out _ (B9.trans ((below_regrown w9 _ _).mono B9.size))))
            repeat (go_big_quiet_step (fail))
            refine wpQuiet_nil ?_
            intro _ hw'
            obtain ⟨⟨dqb, osqb⟩, hw''⟩ := hw'
            have hbqb := below_regrown w9 dqb osqb
            subst hw''
            have B10 := B9.trans (hbqb.mono B9.size)
            generalize Go.Sort.grow (redrawn w9 dqb) osqb = w10 at *
            clear GR9 RN9 RX9 HE1
            go_wp2_with fail
            go_ret
            exact ⟨rfl, B10⟩
          | false =>
            have HE2 := HE2.out rfl
            refine wp_region_quiet_below (by kernel_rfl) (by kernel_rfl) ?_
            repeat (go_big_quiet_step (fail))
            go_big_quiet_step (exact Calls.regrown_of (GR9.out _ _))
            refine wpQuiet_step (fun K hK => ?_)
            refine qload_row (by rfl) 50 _ (by rfl) q2 0 (by rfl) r.cells _ (qrange RN9) Tryd.underlying50 (by rfl) (by rw [HLr.out]; kernel_rfl) ?_
            go_simp
            refine hK _ ?_
            clear hK K
            repeat (go_big_quiet_step (fail))
            go_big_quiet_step (exact Calls.regrown_of (GR9.out _ _))
            refine wpQuiet_step (fun K hK => ?_)
            refine qload_row (by rfl) 50 _ (by rfl) w.heap.size 0 (by rfl) x.cells _ (qrange RX9) Tryd.underlying50 (by rfl) (by rw [HLx.out]; kernel_rfl) ?_
            go_simp
            refine hK _ ?_
            clear hK K
            repeat (go_big_quiet_step (fail))
            go_big_quiet_step (exact Calls.regrown_of (GA.out _ (B9.trans ((below_regrown w9 _ _).mono B9.size))))
            repeat (go_big_quiet_step (fail))
            refine wpQuiet_nil ?_
            intro _ hw'
            obtain ⟨⟨dqb, osqb⟩, hw''⟩ := hw'
            have hbqb := below_regrown w9 dqb osqb
            subst hw''
            have B10 := B9.trans (hbqb.mono B9.size)
            generalize Go.Sort.grow (redrawn w9 dqb) osqb = w10 at *
            clear GR9 RN9 RX9 HE1
            go_wp2_with fail
            go_ret
            exact ⟨rfl, B10⟩
        · clear he
          refine wp_region_quiet_below (by kernel_rfl) (by kernel_rfl) ?_
          repeat (go_big_quiet_step (fail))
          refine wpQuiet_nil ?_
          intro _ hw'
          obtain ⟨⟨dqa, osqa⟩, hw''⟩ := hw'
          have hbqa := below_regrown w8 dqa osqa
          subst hw''
          have B9 := B8.trans (hbqa.mono B8.size)
          have U9 := U8.below hbqa
          have RN9 := block_range (Block.below N8 hbqa (Block.lt N8))
          have RX9 := block_range (Block.below X8 hbqa (Block.lt X8))
          generalize Go.Sort.grow (redrawn w8 dqa) osqa = w9 at *
          clear RN8 RX8 GR N8 X8 U8 hbqa B8
          have GR9 := Lib.hid (fun d os => HLy.out _ j' p0' p1' (U9.below (below_regrown w9 d os)))
          go_wp2_with fail
          have HE1 := HE1.out
          cases b with
          | true =>
            refine wp_region_quiet_below (by kernel_rfl) (by kernel_rfl) ?_
            repeat (go_big_quiet_step (fail))
            go_big_quiet_step (exact Calls.regrown_of (GR9.out _ _))
            refine wpQuiet_step (fun K hK => ?_)
            refine qload_row (by rfl) 50 _ (by rfl) q2 0 (by rfl) r.cells _ (qrange RN9) Tryd.underlying50 (by rfl) (by rw [HLr.out]; kernel_rfl) ?_
            go_simp
            refine hK _ ?_
            clear hK K
            repeat (go_big_quiet_step (fail))
            go_big_quiet_step (exact Calls.regrown_of (GA.out _ (B9.trans ((below_regrown w9 _ _).mono B9.size))))
            repeat (go_big_quiet_step (fail))
            refine wpQuiet_nil ?_
            intro _ hw'
            obtain ⟨⟨dqb, osqb⟩, hw''⟩ := hw'
            have hbqb := below_regrown w9 dqb osqb
            subst hw''
            have B10 := B9.trans (hbqb.mono B9.size)
            generalize Go.Sort.grow (redrawn w9 dqb) osqb = w10 at *
            clear GR9 RN9 RX9 HE1
            go_wp2_with fail
            go_ret
            exact ⟨rfl, B10⟩
          | false =>
            have HE2 := HE2.out rfl
            refine wp_region_quiet_below (by kernel_rfl) (by kernel_rfl) ?_
            repeat (go_big_quiet_step (fail))
            go_big_quiet_step (exact Calls.regrown_of (GR9.out _ _))
            refine wpQuiet_step (fun K hK => ?_)
            refine qload_row (by rfl) 50 _ (by rfl) q2 0 (by rfl) r.cells _ (qrange RN9) Tryd.underlying50 (by rfl) (by rw [HLr.out]; kernel_rfl) ?_
            go_simp
            refine hK _ ?_
            clear hK K
            repeat (go_big_quiet_step (fail))
            go_big_quiet_step (exact Calls.regrown_of (GR9.out _ _))
            refine wpQuiet_step (fun K hK => ?_)
            refine qload_row (by rfl) 50 _ (by rfl) w.heap.size 0 (by rfl) x.cells _ (qrange RX9) Tryd.underlying50 (by rfl) (by rw [HLx.out]; kernel_rfl) ?_
            go_simp
            refine hK _ ?_
            clear hK K
            repeat (go_big_quiet_step (fail))
            go_big_quiet_step (exact Calls.regrown_of (GA.out _ (B9.trans ((below_regrown w9 _ _).mono B9.size))))
            repeat (go_big_quiet_step (fail))
            refine wpQuiet_nil ?_
            intro _ hw'
            obtain ⟨⟨dqb, osqb⟩, hw''⟩ := hw'
            have hbqb := below_regrown w9 dqb osqb
            subst hw''
            have B10 := B9.trans (hbqb.mono B9.size)
            generalize Go.Sort.grow (redrawn w9 dqb) osqb = w10 at *
            clear GR9 RN9 RX9 HE1
            go_wp2_with fail
            go_ret
            exact ⟨rfl, B10⟩
end Go.Proofs.YtpnodocjpedcmaaDoor.JournalFalls
