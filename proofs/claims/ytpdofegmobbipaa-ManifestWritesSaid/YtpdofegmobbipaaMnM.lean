/-
  Layer 22, manifest: the document's Same, of manifests that are the same: contract. Conditions: as each theorem names.
-/
import Derived.Test.YtpdofegmobbipaaMnW
import Derived.BigQuiet
namespace Go.Proofs.Ytpdofegmobbipaa.Mn
open Go.ChangeShapes Go.WideShapes Go.ChangeAt Go.RowKit Go.Proofs.Ytpdofegmobbipaa.Kit Go.Proofs.Ytpdofegmobbipaa.Oct

set_option maxRecDepth 100000 in
set_option maxHeartbeats 6400000 in
theorem same_yes (m : Man) (ho : m.Ok) (A2 : Option Addr) (c2 : Nat) (w : World) (hr : m.In w) (h5 : m.ord.length ≤ 5000) (hr2 : Holds w w.heap.size .i64 A2 m.ord) (hok2 : ({ m with A := A2, cap := c2 } : Man).Ok) :
    Calls Try.prog 14 #[.agg m.cells.toArray, .agg ({ m with A := A2, cap := c2 } : Man).cells.toArray] w fun e w' => e = .returned (.bool true) ∧ Below w.heap.size w w' := by
  have X1 : ManAt ((w.alloc (.cells m.cells.toArray 27)).alloc (.cells ({ m with A := A2, cap := c2 } : Man).cells.toArray 27)) w.heap.size m := (Block.new w _ _).alloc _
  have X2 : ManAt ((w.alloc (.cells m.cells.toArray 27)).alloc (.cells ({ m with A := A2, cap := c2 } : Man).cells.toArray 27)) (w.heap.size + 1) ({ m with A := A2, cap := c2 } : Man) := by
    have := Block.new (w.alloc (.cells m.cells.toArray 27)) 27 ({ m with A := A2, cap := c2 } : Man).cells.toArray
    rwa [show (w.alloc (.cells m.cells.toArray 27)).heap.size = w.heap.size + 1 by simp] at this
  have B2 : Below w.heap.size w ((w.alloc (.cells m.cells.toArray 27)).alloc (.cells ({ m with A := A2, cap := c2 } : Man).cells.toArray 27)) := ((Below.refl _ _).alloc (Nat.le_refl _) _).alloc (by simp) _
  obtain ⟨a0, a1, a2, a3, a4⟩ := X1.ints
  obtain ⟨e0, e1, e2, e3, e4⟩ := X2.ints
  have a5 := X1.order ho
  have e5 := X2.order hok2
  have P1 := Lib.hid (X1.old ho)
  have P2 := Lib.hid (X2.old hok2)
  have P3 := Lib.hid (X1.new ho)
  have P4 := Lib.hid (X2.new hok2)
  have P5 := Lib.hid (X1.root ho)
  have P6 := Lib.hid (X2.root hok2)
  have HX1 := Lib.hid X1
  have HX2 := Lib.hid X2
  have HOK := Lib.hid ho
  have HOK2 := Lib.hid hok2
  have HB2 := Lib.hid B2
  have hodl := Lib.hid ho.odl
  have hndl := Lib.hid ho.ndl
  have hrtl := Lib.hid ho.rtl
  obtain ⟨md, vr, bk, ol, nl, od, nd, rt, A1, c1, ord⟩ := m
  simp only at *
  obtain ⟨L1, hL1⟩ : ∃ L1, (Man.mk md vr bk ol nl od nd rt A1 c1 ord).cells = L1 := ⟨_, rfl⟩
  obtain ⟨L2, hL2⟩ : ∃ L2, (Man.mk md vr bk ol nl od nd rt A2 c2 ord).cells = L2 := ⟨_, rfl⟩
  have b5 := a5
  rw [hL1, hL2] at P1 P2 P3 P4 P5 P6 HB2 a0 a1 a2 a3 a4 a5 e0 e1 e2 e3 e4 e5 ⊢
  clear X1 X2 B2 HX1 HX2 HOK HOK2 b5 hL1 hL2 ho hok2
  obtain ⟨w2, hw2⟩ : ∃ w2, (w.alloc (.cells L1.toArray 27)).alloc (.cells L2.toArray 27) = w2 := ⟨_, rfl⟩
  rw [hw2] at P1 P2 P3 P4 P5 P6 HB2 a0 a1 a2 a3 a4 a5 e0 e1 e2 e3 e4 e5
  have HW2 := Lib.hid hw2
  have hq : ∀ ys : List Int, decide (ys = ys) = true := fun ys => by simp
  have HQ := Lib.hid hq
  have K0 : Hid True := Lib.hid trivial
  clear hw2 hq
  go_enter Try.func14, Try.ntmps14
  go_upto_region 1 with fail
  rw [HW2.out]
  go_upto_region 3 with (first
    | (have _t := K0; clear _t; refine wpList_load_midG (o := ⟨some 41, _, _, _, _, _⟩) (by rfl) _ _ rfl w.heap.size 5 rfl od P1.out Try.underlying24 rfl (by rw [hodl.out]; kernel_rfl) ?_; clear K0; have K1 : Hid True := Lib.hid trivial)
    | (have _t := K1; clear _t; refine wpList_load_midG (o := ⟨some 43, _, _, _, _, _⟩) (by rfl) _ _ rfl (w.heap.size + 1) 5 rfl od P2.out Try.underlying24 rfl (by rw [hodl.out]; kernel_rfl) ?_; clear K1; have K2 : Hid True := Lib.hid trivial)
    | (have _t := K2; clear _t; refine wpList_neq_dg (o := ⟨some 44, _, _, _, _, _⟩) (by rfl) _ _ _ rfl hodl.out hodl.out rfl rfl (HQ.out od) ?_; clear K2; have K3 : Hid True := Lib.hid trivial)
    | (have _t := K3; clear _t; refine wpList_load_midG (o := ⟨some 48, _, _, _, _, _⟩) (by rfl) _ _ rfl w.heap.size 37 rfl nd P3.out Try.underlying24 rfl (by rw [hndl.out]; kernel_rfl) ?_; clear K3; have K4 : Hid True := Lib.hid trivial)
    | (have _t := K4; clear _t; refine wpList_load_midG (o := ⟨some 50, _, _, _, _, _⟩) (by rfl) _ _ rfl (w.heap.size + 1) 37 rfl nd P4.out Try.underlying24 rfl (by rw [hndl.out]; kernel_rfl) ?_; clear K4; have K5 : Hid True := Lib.hid trivial)
    | (have _t := K5; clear _t; refine wpList_neq_dg (o := ⟨some 51, _, _, _, _, _⟩) (by rfl) _ _ _ rfl hndl.out hndl.out rfl rfl (HQ.out nd) ?_; clear K5; have K6 : Hid True := Lib.hid trivial)
    | (have _t := K6; clear _t; refine wpList_load_midG (o := ⟨some 55, _, _, _, _, _⟩) (by rfl) _ _ rfl w.heap.size 69 rfl rt P5.out Try.underlying24 rfl (by rw [hrtl.out]; kernel_rfl) ?_; clear K6; have K7 : Hid True := Lib.hid trivial)
    | (have _t := K7; clear _t; refine wpList_load_midG (o := ⟨some 57, _, _, _, _, _⟩) (by rfl) _ _ rfl (w.heap.size + 1) 69 rfl rt P6.out Try.underlying24 rfl (by rw [hrtl.out]; kernel_rfl) ?_; clear K7; have K8 : Hid True := Lib.hid trivial)
    | (have _t := K8; clear _t; refine wpList_neq_dg (o := ⟨some 58, _, _, _, _, _⟩) (by rfl) _ _ _ rfl hrtl.out hrtl.out rfl rfl (HQ.out rt) ?_; clear K8))
  clear a0 a1 a2 a3 a4 e0 e1 e2 e3 e4 hodl hndl hrtl HQ HW2
  go_upto_region 4 with fail
  go_loopw [72] (fun q wr => ∃ k d : Nat, k ≤ ord.length ∧ q = .int .i64 k ∧ wr = w2.drewN d) (fun q _ => ord.length - (intOf q).toNat)
  case atStart => exact ⟨0, 0, Nat.zero_le _, rfl, rfl⟩
  case round =>
    obtain ⟨k, d, hk, rfl, hwr⟩ := hrel
    have hcw : ∀ p, wr.cell? p = w2.cell? p := fun p => by rw [hwr]; rfl
    have HWR := Lib.hid hwr
    have hr' : Holds w w.heap.size .i64 A1 ord := hr
    clear hwr
    by_cases hlt : k < ord.length
    · have d0 : decide (k < ord.length) = true := decide_eq_true hlt
      obtain ⟨b1, o1, rfl, hb1, hc1⟩ := (hr'.below HB2.out) (by omega)
      obtain ⟨b2, o2, rfl, hb2, hc2⟩ := (hr2.below HB2.out) (by omega)
      have q1 : wr.cell? ⟨b1, o1 + k, none⟩ = some (.int .i64 (ord.getD k 0)) := (hcw _).trans (hc1 k hlt)
      have q2 : wr.cell? ⟨b2, o2 + k, none⟩ = some (.int .i64 (ord.getD k 0)) := (hcw _).trans (hc2 k hlt)
      have a6 : wr.cell? ⟨w.heap.size, 101, none⟩ = some (.slice (some ⟨b1, o1, none⟩) ord.length c1) := (hcw _).trans a5
      have e6 : wr.cell? ⟨w.heap.size + 1, 101, none⟩ = some (.slice (some ⟨b2, o2, none⟩) ord.length c2) := (hcw _).trans e5
      have i1 : (k : Int) < (ord.length : Int) := by omega
      generalize ord.getD k 0 = z at *
      clear hc1 hc2 a5 e5 hcw hr hr' hr2
      go_wp2_with fail
      go_quiet (fail)
      go_wp2_with fail
      go_roundw
      case rel => exact ⟨k + 1, d + nq, by omega, by go_num, by rw [HWR.out, World.drewN_drewN]⟩
      case measure => simp [intOf]; omega
    · have d0 : decide (k < ord.length) = false := decide_eq_false hlt
      go_wp2_with fail
      go_ret
      exact ⟨rfl, by rw [HWR.out]; exact below_draws HB2.out d⟩
end Go.Proofs.Ytpdofegmobbipaa.Mn
