/-
  Layer 1, sha: the words of a block: contract. Conditions: as each theorem names.
-/
import Derived.Test.YtpnodocjpedcmaaDoorMGIays0
import Derived.StillTailTactics
import Derived.Outline
import Derived.Deep.DeepCutAuto
import Derived.BigQuiet
import Derived.Deep.QuietTactic
import Derived.IntWalk
namespace Go.Proofs.YtpnodocjpedcmaaDoor.Sha
open Go.ChangeShapes Go.WideShapes Go.ChangeAt Go.RowKit Go.Proofs.YtpnodocjpedcmaaDoor.Kit

def Z64 : Array Value := #[.int .u32 0, .int .u32 0, .int .u32 0, .int .u32 0, .int .u32 0, .int .u32 0, .int .u32 0, .int .u32 0, .int .u32 0, .int .u32 0, .int .u32 0, .int .u32 0, .int .u32 0, .int .u32 0, .int .u32 0, .int .u32 0, .int .u32 0, .int .u32 0, .int .u32 0, .int .u32 0, .int .u32 0, .int .u32 0, .int .u32 0, .int .u32 0, .int .u32 0, .int .u32 0, .int .u32 0, .int .u32 0, .int .u32 0, .int .u32 0, .int .u32 0, .int .u32 0, .int .u32 0, .int .u32 0, .int .u32 0, .int .u32 0, .int .u32 0, .int .u32 0, .int .u32 0, .int .u32 0, .int .u32 0, .int .u32 0, .int .u32 0, .int .u32 0, .int .u32 0, .int .u32 0, .int .u32 0, .int .u32 0, .int .u32 0, .int .u32 0, .int .u32 0, .int .u32 0, .int .u32 0, .int .u32 0, .int .u32 0, .int .u32 0, .int .u32 0, .int .u32 0, .int .u32 0, .int .u32 0, .int .u32 0, .int .u32 0, .int .u32 0, .int .u32 0]
theorem z64_eq : ((List.replicate 64 (0 : Int)).map (Value.int .u32)).toArray = Z64 := rfl

theorem getD_octet {xs : List Int} (h : Octets xs) (j : Nat) : 0 ≤ xs.getD j 0 ∧ xs.getD j 0 ≤ 255 := by
  rw [List.getD_eq_getElem?_getD]
  exact h.at_ j

theorem arr64 (W : World) : Arr (W.alloc (.cells Z64 166)) W.heap.size 166 .u32 (List.replicate 64 0) := by
  have := Arr.new W 166 .u32 (List.replicate 64 0)
  rw [z64_eq] at this
  exact this

set_option maxRecDepth 100000 in
set_option maxHeartbeats 3200000 in
theorem words_any (A : Option Addr) (bs : List Int) (c : Nat) (w : World) (hl : bs.length = 64) (hc : 64 ≤ c) (hm : c ≤ maxLen) (ho : Octets bs) (hr : Holds w w.heap.size .u8 A bs) :
    Calls Tryd.prog 103 #[.slice A 64 c] w fun e w' => e = .returned (arrV .u32 (sched bs 64)) ∧ Below w.heap.size w w' := by
  have hb0 : Below w.heap.size w ((w.alloc (.cells Z64 166)).alloc (.cells Z64 166)) := ((Below.refl _ _).alloc (Nat.le_refl _) _).alloc (by simp) _
  have a2 : Arr ((w.alloc (.cells Z64 166)).alloc (.cells Z64 166)) w.heap.size 166 .u32 (List.replicate 64 0) := (arr64 w).alloc _
  have a3 : Arr ((w.alloc (.cells Z64 166)).alloc (.cells Z64 166)) (w.heap.size + 1) 166 .u32 (padZ (sched bs 0)) := by
    have := arr64 (w.alloc (.cells Z64 166))
    rw [show (w.alloc (.cells Z64 166)).heap.size = w.heap.size + 1 by simp] at this
    exact this
  obtain ⟨b, off, rfl, hb, hcs⟩ := hr (by omega)
  unfold maxLen at hm
  go_enter Tryd.func103, Tryd.ntmps103
  go_wp2_with fail
  change Code.wp _ _ _ _ ((w.alloc (.cells Z64 166)).alloc (.cells Z64 166))
  generalize (w.alloc (.cells Z64 166)).alloc (.cells Z64 166) = w0 at *
  go_loopw [11] (fun s wx => ∃ i : Nat, i ≤ 16 ∧ s = .int .i64 i ∧ Arr wx (w.heap.size + 1) 166 .u32 (padZ (sched bs i)) ∧ Arr wx w.heap.size 166 .u32 (List.replicate 64 0) ∧ Below w.heap.size w wx) (fun s _ => 16 - (intOf s).toNat)
  case atStart => exact ⟨0, by omega, rfl, a3, a2, hb0⟩
  case round =>
    obtain ⟨i, hi, rfl, k3, k2, hbx⟩ := hrel
    by_cases hlt : i < 16
    · have d := fun j (hj : 4 * i + j < bs.length) => (hbx.cell (p := ⟨b, off + (4 * i + j), none⟩) hb).trans (hcs (4 * i + j) hj)
      have d0 := d 0 (by omega)
      have d1 := d 1 (by omega)
      have d2 := d 2 (by omega)
      have d3 := d 3 (by omega)
      rw [← Nat.add_assoc] at d0 d1 d2 d3
      rw [Nat.add_zero, Nat.add_zero] at d0
      have hsl : 4 * i + 4 - 4 * i = 4 := by omega
      have hix : (i : Int) < 64 := by omega
      have hi0 : (0 : Int) ≤ (i : Int) := by omega
      have k3d : Arr wr.drew (w.heap.size + 1) 166 .u32 (padZ (sched bs i)) := k3
      have k2d : Arr wr.drew w.heap.size 166 .u32 (List.replicate 64 0) := k2
      have hbd : Below w.heap.size w wr.drew := below_draws hbx 1
      have e3 := k3d.cell (i := i) (by rw [padZ_length (by rw [sched_length]; omega)]; omega)
      have z3 := k3d.frozen i
      have y0 := getD_octet ho (4 * i)
      have y1 := getD_octet ho (4 * i + 1)
      have y2 := getD_octet ho (4 * i + 2)
      have y3 := getD_octet ho (4 * i + 3)
      have hset : (padZ (sched bs i)).set i (wordB bs i) = padZ (sched bs (i + 1)) := by
        have := padZ_set (l := sched bs i) (x := wordB bs i) (by rw [sched_length]; omega)
        rw [sched_length] at this
        rw [this, sched, if_pos hlt]
      unfold wordB at hset
      generalize bs.getD (4 * i) 0 = x0 at *
      generalize bs.getD (4 * i + 1) 0 = x1 at *
      generalize bs.getD (4 * i + 2) 0 = x2 at *
      generalize bs.getD (4 * i + 3) 0 = x3 at *
      have HS := Lib.hid hset
      clear d hset
      go_wp2_with fail
      go_still_tail 24, (by kernel_rfl)
      change wpList _ _ _ _ _ wr.drew
      clear k2 k3 hbx
      generalize wr.drew = w2 at *
      go_wp2_with fail
      have k9 := k3d.set_ i (bits BinOp.or .u32 (bits BinOp.or .u32 (bits BinOp.or .u32 (x0 * 16777216) (x1 * 65536)) (x2 * 256)) x3)
      rw [HS.out] at k9
      go_roundw
      case rel => exact ⟨i + 1, by omega, by go_num, k9, k2d.far (by simp) _, hbd.setCell (by simp) _⟩
      case measure => simp [intOf] <;> omega
    · obtain rfl : i = 16 := by omega
      go_wp2_with fail
      rw [show ((16 : Nat) : Int) = 16 from rfl]
      clear a3 a2 hb0
      go_loopw [46] (fun s wx => ∃ (i : Nat) (l : List Int), i ≤ 48 ∧ s = .int .i64 i ∧ IsSched bs (i + 16) l ∧ Arr wx (w.heap.size + 1) 166 .u32 (padZ l) ∧ Arr wx w.heap.size 166 .u32 (List.replicate 64 0) ∧ Below w.heap.size w wx) (fun s _ => 48 - (intOf s).toNat)
      case atStart => exact ⟨0, _, by omega, rfl, ⟨rfl⟩, k3, k2, hbx⟩
      case round =>
        clear k3 k2 hbx
        obtain ⟨i, l, hi, rfl, hl, k3, k2, hbx⟩ := hrel
        by_cases hlt : i < 48
        · have hlen : (padZ l).length = 64 := padZ_length (by rw [hl.length]; omega)
          have hg := fun j (hj : j < i + 16) => padZ_get (l := l) (i := j) (by rw [hl.length]; exact hj)
          have hx := hl.get (i + 1)
          have hy := hl.get (i + 14)
          obtain ⟨l', hl', hset⟩ := hl.next (by omega)
          rw [if_neg (by omega)] at hset
          unfold mixW at hset
          rw [show i + 16 - 16 = i by omega, show i + 16 - 15 = i + 1 by omega, show i + 16 - 7 = i + 9 by omega, show i + 16 - 2 = i + 14 by omega] at hset
          have e0 := k3.cell (i := i) (by omega)
          have e1 := k3.cell (i := i + 1) (by omega)
          have e9 := k3.cell (i := i + 9) (by omega)
          have e14 := k3.cell (i := i + 14) (by omega)
          have e16 := k3.cell (i := i + 16) (by omega)
          have z16 := k3.frozen (i + 16)
          rw [hg _ (by omega)] at e0 e1 e9 e14
          generalize l.getD i 0 = a0 at *
          generalize l.getD (i + 1) 0 = x at *
          generalize l.getD (i + 9) 0 = a9 at *
          generalize l.getD (i + 14) 0 = y at *
          generalize (padZ l)[i + 16]?.getD 0 = a16 at *
          have HS := Lib.hid hset
          clear hset hg hlen
          go_wp2_with fail
          have f1 : IntKind.i64.wrap (↑i + 1) = ↑i + 1 := IntWalk.i64_in _ (by omega)
          have f14 : IntKind.i64.wrap (↑i + 14) = ↑i + 14 := IntWalk.i64_in _ (by omega)
          have p0 : (0 : Int) ≤ (i : Int) := by omega
          have p1 : (0 : Int) ≤ (i : Int) + 1 := by omega
          have p14 : (0 : Int) ≤ (i : Int) + 14 := by omega
          have l1 : (i : Int) + 1 < 64 := by omega
          have l14 : (i : Int) + 14 < 64 := by omega
          have t1 : ((i : Int) + 1).toNat = i + 1 := by omega
          have t14 : ((i : Int) + 14).toNat = i + 14 := by omega
          go_quiet (fail)
          clear f1 f14 p0 p1 p14 l1 l14 t1 t14
          go_wp2_with fail
          refine (turned_any _ 7 7 _ rfl hx (by decide)).mono ?_
          rintro e w' ⟨rfl, rfl⟩
          go_wp2_with fail
          refine (turned_any _ 18 18 _ rfl hx (by decide)).mono ?_
          rintro e w' ⟨rfl, rfl⟩
          go_wp2_with fail
          refine (turned_any _ 17 17 _ rfl hy (by decide)).mono ?_
          rintro e w' ⟨rfl, rfl⟩
          go_wp2_with fail
          refine (turned_any _ 19 19 _ rfl hy (by decide)).mono ?_
          rintro e w' ⟨rfl, rfl⟩
          go_wp2_with fail
          have f9 : IntKind.i64.wrap (↑i + 9) = ↑i + 9 := IntWalk.i64_in _ (by omega)
          have f16 : IntKind.i64.wrap (↑i + 16) = ↑i + 16 := IntWalk.i64_in _ (by omega)
          have p0 : (0 : Int) ≤ (i : Int) := by omega
          have p9 : (0 : Int) ≤ (i : Int) + 9 := by omega
          have p16 : (0 : Int) ≤ (i : Int) + 16 := by omega
          have l0 : (i : Int) < 64 := by omega
          have l9 : (i : Int) + 9 < 64 := by omega
          have l16 : (i : Int) + 16 < 64 := by omega
          have t9 : ((i : Int) + 9).toNat = i + 9 := by omega
          have t16 : ((i : Int) + 16).toNat = i + 16 := by omega
          have k3q : Arr (wr.drewN nq) (w.heap.size + 1) 166 .u32 (padZ l) := k3
          have k2q : Arr (wr.drewN nq) w.heap.size 166 .u32 (List.replicate 64 0) := k2
          have hbq : Below w.heap.size w (wr.drewN nq) := below_draws hbx nq
          have e0q : (wr.drewN nq).cell? ⟨w.heap.size + 1, i, none⟩ = some (.int .u32 a0) := e0
          have e9q : (wr.drewN nq).cell? ⟨w.heap.size + 1, i + 9, none⟩ = some (.int .u32 a9) := e9
          have e16q : (wr.drewN nq).cell? ⟨w.heap.size + 1, i + 16, none⟩ = some (.int .u32 a16) := e16
          have z16q : (wr.drewN nq).frozen? ⟨w.heap.size + 1, i + 16, none⟩ = false := z16
          clear e0 e1 e9 e14 e16 z16 k3 k2 hbx
          generalize wr.drewN nq = wq at *
          have k3d : Arr wq.drew (w.heap.size + 1) 166 .u32 (padZ l) := k3q
          have k2d : Arr wq.drew w.heap.size 166 .u32 (List.replicate 64 0) := k2q
          have hbd : Below w.heap.size w wq.drew := below_draws hbq 1
          go_still_tail 15, (by kernel_rfl)
          change wpList _ _ _ _ _ wq.drew
          have e16d := k3d.cell (i := i + 16) (by rw [padZ_length (by rw [hl.length]; omega)]; omega)
          have z16d := k3d.frozen (i + 16)
          clear f9 f16 p0 p9 p16 l0 l9 l16 t9 t16 k3q k2q hbq e0q e9q e16q z16q
          generalize wq.drew = w2 at *
          go_wp2_with fail
          have k9 := k3d.set_ (i + 16) (add32 (add32 (add32 a0 (sig0 x)) a9) (sig1 y))
          rw [HS.out, add32_4] at k9
          unfold sig0 sig1 at k9
          go_roundw
          case rel => exact ⟨i + 1, l', by omega, by go_num, hl', k9, k2d.far (by simp) _, hbd.setCell (by simp) _⟩
          case measure => simp [intOf] <;> omega
        · obtain rfl : i = 48 := by omega
          have arr64t : Tryd.prog.underlying 166 = some (.array 64 150) := Tryd.underlying166
          rw [padZ_full hl.length, hl.out] at k3
          have hsl := Lib.hid (sched_length bs 64)
          go_wp2_with (first
            | (refine wpList_load_arr rfl _ _ rfl k3 rfl arr64t rfl (by rw [hsl.out]; kernel_rfl) ?_)
            | (refine wpList_store_arr rfl _ _ _ rfl k2 rfl rfl (by rw [hsl.out]; rfl) (by rw [hsl.out]; kernel_rfl) ?_; intro w4 r4 g4))
          refine bodyPost_ret (v := arrV .u32 (sched bs 64)) (results_cell_row rfl _ _ w.heap.size 166 _ (0, 0) _ rfl r4 arr64t rfl (by rw [show ((sched bs 64).map (Value.int .u32)).toArray.size = 64 by simp [sched_length]]; kernel_rfl)) rfl ⟨rfl, ?_⟩
          exact hbx.trans (below_of_grown g4 hbx.size fun g hg => by injection hg with hg; omega)
end Go.Proofs.YtpnodocjpedcmaaDoor.Sha
