/-
  Layer 6, sector: Back: contract. Conditions: as each theorem names.
  Layer 6, sector: nil devices, what may not be made, the bytes of a step: contracts. Conditions: as each theorem names.
  Layer 6, sector: the bytes of a step: contract. Conditions: as each theorem names.
  Layer 6, sector: a device through a row of calls; the document's example. Conditions: as each theorem names.
  Layer 7, part: what is read of a region, plain. Conditions: as each theorem names.
  Layer 7, part: what is written into a region, plain. Conditions: as each theorem names.
  Layer 7, part: Open, Size, has: contracts. Conditions: as each theorem names.
  Layer 7, part: Read: contract. Conditions: as each theorem names.
  Layer 7, part: Write: contract. Conditions: as each theorem names.
  Layer 7, part: Open, the document's On: contracts. Conditions: as each theorem names.
  Layer 7, the document's Write, plain: the texts that it cuts and fills up. Conditions: as each theorem names.
  Layer 7, the document's On: contract. Conditions: as each theorem names.
  Layer 1, sha: a hash: new, its length, a copy: contracts. Conditions: as each theorem names.
-/
import Derived.Test.YtpnodocjpedcmaaDoorMSeJ
import Derived.Test.YtpnodocjpedcmaaDoorMGIays3
import Derived.RegionTactic
import Derived.BigQuiet
import Derived.Test.YtpnodocjpedcmaaDoorMGIays0
import Derived.Deep.RegionHeld
import Derived.IntWalk
import Derived.Laws.CopyOwn
import Derived.Test.YtpnodocjpedcmaaDoorMShX
import Derived.Deep.RegionWith
namespace Go.Proofs.YtpnodocjpedcmaaDoor.Sec
open Go.ChangeShapes Go.WideShapes Go.ChangeAt Go.RowKit Go.Proofs.YtpnodocjpedcmaaDoor.Kit Go.Maps Go.Proofs.YtpnodocjpedcmaaDoor.Sk

theorem backK_down (s : Dv) (picks : List Int) (n : Nat) : backK s.down picks n = backK s picks n := by
  unfold backK
  rw [s.down_waits, s.down_kept]
theorem back_form (s : Dv) (picks : List Int) : s.back picks = { s.down with kept := backK s.down picks s.down.waits.length, waits := [], fuse := -1, off := false } := by
  unfold Dv.back
  rw [backK_down, s.down_waits]

/-- It is back: nothing waits, no fuse, it is on. -/
theorem DvAt.returns {w : World} {I : Nat → Prop} {a mk mw : Nat} {s : Dv} (h : DvAt w I a mk mw s) :
    w.cell? ⟨a, 3, none⟩ = some (.map (some mw)) ∧ ∃ w1, (∀ ty, (Builtin.clear_ #[89] ty #[.map (some mw)]).run Tryd.prog w = .ok (.tuple #[]) w1) ∧
      (w1.cell? ⟨a, 6, none⟩ = some (.int .i64 s.fuse) ∧ w1.frozen? ⟨a, 6, none⟩ = false ∧ w1.cell? ⟨a, 4, none⟩ = some (.bool s.off) ∧ w1.frozen? ⟨a, 4, none⟩ = false) ∧
      DvAt ((w1.setCell ⟨a, 6, none⟩ (.int .i64 (-1))).setCell ⟨a, 4, none⟩ (.bool false)) I a mk mw { s with waits := [], fuse := -1, off := false } ∧
      TurnsIn (DSet a mk mw) w ((w1.setCell ⟨a, 6, none⟩ (.int .i64 (-1))).setCell ⟨a, 4, none⟩ (.bool false)) := by
  obtain ⟨w1, hrun, hm', ht⟩ := h.wt.clear Tryd.underlying89
  have t : TurnsIn (fun b => b = mw) w w1 := TurnsIn.ofGrown (row := some mw) ht.grown fun b hb => (Option.some.inj hb).symm
  have hS : ∀ b, b = mw → I b → ∀ cs f, w.heap[b]? ≠ some (.cells cs 5 f) := fun b hb _ => h.no_row b (Or.inr (Or.inr hb))
  have hh := h.ok
  have D1 : DvAt w1 I a mk mw { s with waits := [] } := ⟨h.blk.out t h.ne_w, h.k.out t h.ne hS, hm', h.ne, ⟨hh.s1, hh.s2, hh.c1, hh.c2, hh.ku, up_nil, hh.kr, fun _ h => (List.not_mem_nil h).elim, fun _ h => (List.not_mem_nil h).elim, hh.f1, hh.f2, hh.o1, hh.w1⟩⟩
  have h1 := D1.ok
  obtain ⟨D2, T2⟩ := D1.field 6 (.int .i64 (-1)) { s with waits := [], fuse := -1 } rfl rfl rfl rfl ⟨h1.s1, h1.s2, h1.c1, h1.c2, h1.ku, h1.wu, h1.kr, h1.wr_, h1.wn, Int.le_refl _, by show (-1 : Int) ≤ _; omega, h1.o1, h1.w1⟩
  have h2 := D2.ok
  obtain ⟨D3, T3⟩ := D2.field 4 (.bool false) { s with waits := [], fuse := -1, off := false } rfl rfl rfl rfl ⟨h2.s1, h2.s2, h2.c1, h2.c2, h2.ku, h2.wu, h2.kr, h2.wr_, h2.wn, h2.f1, h2.f2, h2.o1, h2.w1⟩
  exact ⟨h.blk.cell 3, w1, hrun, ⟨D1.blk.cell 6, D1.free 6, D1.blk.cell 4, D1.free 4⟩, D3, (t.mono fun b _ e => Or.inr (Or.inr e)).trans (T2.trans T3)⟩

/-- A round of Back. -/
structure BGoing (w0 w : World) (I : Nat → Prop) (a mk mw : Nat) (s : Dv) (v : Value) (B : Nat) (A : Option Addr) (xs : List Int) (kc : Sl) : Prop where
  d : DvAt w I a mk mw (s.with_ kc)
  t : TurnsIn (DSet a mk mw) w0 w
  own : Own w B 3 .i64 v (s.waits.map (·.1))
  p : Holds w w.heap.size .u8 A xs
theorem BGoing.drew {w0 w : World} {I : Nat → Prop} {a mk mw : Nat} {s : Dv} {v : Value} {B : Nat} {A : Option Addr} {xs : List Int} {kc : Sl} (h : BGoing w0 w I a mk mw s v B A xs kc) : BGoing w0 w.drew I a mk mw s v B A xs kc :=
  ⟨h.d.below (below_draws (Below.refl _ _) 1), h.t.drewN 1, h.own.drewN 1, h.p⟩
theorem BGoing.keep {w0 w w' : World} {I : Nat → Prop} {a mk mw : Nat} {s : Dv} {v : Value} {B : Nat} {A : Option Addr} {xs : List Int} {kc l : Sl} (h : BGoing w0 w I a mk mw s v B A xs kc) (hm : MapAt w' I RK mk s.size l) (hu : Up l) (hr : ∀ p ∈ l, 0 ≤ p.1 ∧ p.1 < s.count) (t : w.mapTurned w' mk) : BGoing w0 w' I a mk mw s v B A xs l := by
  obtain ⟨D, T⟩ := h.d.keep hm hu hr t
  exact ⟨D, h.t.trans T, h.d.own T h.own (by decide), (h.d.holds T h.p (Nat.le_refl _)).more T.size⟩

set_option maxRecDepth 100000 in
set_option maxHeartbeats 6400000 in
theorem back_any (I : Nat → Prop) (a mk mw : Nat) (s : Dv) (A : Option Addr) (xs : List Int) (c : Nat) (w : World) (h : DvAt w I a mk mw s) (hI : ∀ g, w.heap.size ≤ g → I g) (hx : xs.length ≤ 1000000000) (ho : Octets xs) (hr : Holds w w.heap.size .u8 A xs) (hof : s.offs ≤ 1000000000) :
    Calls Tryd.prog 14 #[.pointer (some ⟨a, 0, none⟩), .slice A xs.length c] w (Leaves I a mk mw w (s.back xs) (.tuple #[])) := by
  have GO := Lib.hid (off_any I a mk mw s w h hof)
  rw [back_form]
  have hold := Lib.hid (fun w1 (t : TurnsIn (DSet a mk mw) w w1) => (h.holds t hr (Nat.le_refl _)).more t.size)
  generalize s.down = s1 at *
  clear h hr hof
  go_enter Tryd.func14, Tryd.ntmps14
  go_wp2_with (first
    | (go_at_call 20; (with_reducible refine GO.out.mono ?_); rintro e w1 ⟨rfl, hd, ht⟩; have q3 := hd.reads.2.2.2.1; have HOK := Lib.hid hd.ok; have GS := Lib.hid (sorted_map hd.wt hd.ok.wu (waits_few hd.ok)))
    | (go_at_call 47; (with_reducible refine (keys_any _ _).mono ?_); rintro e w2 ⟨rfl, rfl⟩)
    | (go_at_call 46; (with_reducible refine GS.out.mono ?_); rintro e w3 ⟨v, rfl, own, hb3⟩; obtain ⟨A3, c3, he3, -⟩ := own.opened; rw [List.length_map] at he3; subst he3; have hgo : BGoing w w3 I a mk mw s1 (.slice A3 s1.waits.length c3) w1.heap.size A xs (backK s1 xs 0) := ⟨hd.below hb3, ht.trans (.ofNew hb3), own, (((hold.out _ ht).below hb3)).more hb3.size⟩; clear own hb3 hd ht q3))
  clear GO GS hold
  generalize w1.heap.size = B1 at *
  have hwf := waits_few HOK.out
  have HBK := Lib.hid (fun k hk => backK_ok HOK.out xs k hk)
  have HBN := Lib.hid (fun k => backK_next s1 xs k)
  have HW := Lib.hid HOK.out.wr_
  have HWN := Lib.hid HOK.out.wn
  have HKF := Lib.hid (fun (l : Sl) (hu : Up l) (hr : ∀ p ∈ l, 0 ≤ p.1 ∧ p.1 < s1.count) => (by have := up_length l 0 hu hr; have := HOK.out.c2; omega : l.length < 1000000000))
  have HC2 := HOK.out.c2
  go_loopw [18] (fun i wz => ∃ k : Nat, k ≤ s1.waits.length ∧ i = .int .i64 k ∧ BGoing w wz I a mk mw s1 (.slice A3 s1.waits.length c3) B1 A xs (backK s1 xs k)) (fun i _ => s1.waits.length - (intOf i).toNat)
  case atStart => exact ⟨0, Nat.zero_le _, rfl, hgo⟩
  case round =>
    clear hgo
    obtain ⟨k, hk, rfl, hgo⟩ := hrel
    by_cases hlt : k < s1.waits.length
    · have hks : (s1.waits.map (·.1)).length = s1.waits.length := List.length_map _
      obtain ⟨g, cap, he, hg1, hg2, _⟩ := hgo.own.form (by omega)
      rw [hks] at he
      injection he with he1 he2 he3
      subst he1 he3
      have hcell := hgo.own.cellAt (i := k) hks.symm (by omega)
      have hp : s1.waits[k]? = some (s1.waits.getD k (0, none)) := by simp [List.getD, List.getElem?_eq_getElem hlt]
      have hgk : (s1.waits.map (·.1)).getD k 0 = (s1.waits.getD k (0, none)).1 := by simp [List.getD, List.getElem?_eq_getElem hlt]
      have hgk' : (s1.waits.map (·.1))[k]?.getD 0 = (s1.waits.getD k (0, none)).1 := by rw [← hgk]; rfl
      have hmem : s1.waits.getD k (0, none) ∈ s1.waits := List.mem_of_getElem? hp
      obtain ⟨hx1, hx2⟩ := HW.out _ hmem
      have hsome := getS_some HOK.out.wu hmem
      have hnn := HWN.out _ hmem
      have hnext := HBN.out k
      obtain ⟨hup, hrg⟩ := HBK.out k (by omega)
      obtain ⟨hup1, hrg1⟩ := HBK.out (k + 1) hlt
      generalize s1.waits.getD k (0, none) = q at *
      obtain ⟨x, o⟩ := q
      cases o with
      | none => exact absurd rfl hnn
      | some ys =>
      rw [hgk'] at hcell
      simp only at hx1 hx2 hsome
      have hxb : -9223372036854775808 ≤ x ∧ x ≤ 9223372036854775807 := by omega
      have d1 : decide ((k : Int) < (s1.waits.length : Int)) = true := decide_eq_true (by omega)
      have d2 : decide (k < s1.waits.length) = true := decide_eq_true hlt
      generalize hkn : backK s1 xs (k + 1) = kn at *
      generalize hkc : backK s1 xs k = kc at *
      have HKN : Hid (backK s1 xs (k + 1) = kn) := Lib.hid hkn
      obtain ⟨y0, y1, y2, y3, y4, y5, y6, y7⟩ := hgo.d.reads
      clear hkn hkc hgk hp hmem hnn he2 hks
      unfold backStep at hnext
      by_cases hpl : k < xs.length
      · obtain ⟨bp, op, rfl, _, hcp⟩ := hgo.p (by omega)
        have hpick := hcp k hpl
        clear hcp
        generalize xs.getD k 0 = pk at *
        have d3 : decide ((k : Int) < (xs.length : Int)) = true := decide_eq_true (by omega)
        have d4 : decide (k < xs.length) = true := decide_eq_true hpl
        by_cases hp1 : pk = 1
        · rw [if_pos hp1] at hnext
          have b1 : (pk == 1) = true := by simpa using hp1
          have D := hgo.drew
          have Dk : MapAt wr.drew I RK mk s1.size kc := D.d.k
          have Dw : MapAt wr.drew I RW mw s1.size s1.waits := D.d.wt
          obtain ⟨g1, m1, hlk, hl1, ho1, hI1, own1⟩ := Dw.look_yes x hxb ys hsome false
          simp only [Bool.false_eq_true, if_false] at hlk
          obtain ⟨w6, hst, hm6, ht6⟩ := Dk.store Tryd.underlying88 hup (HKF.out kc hup hrg) x hxb _ (some ys) (GoodV.kept hI1 hl1 ho1 own1)
          have hnx := D.keep hm6 (by rw [← hnext]; exact hup1) (by rw [← hnext]; exact hrg1) ht6
          rw [← hnext, ← HKN.out] at hnx
          have HNX := Lib.hid hnx
          clear hnx hm6 ht6 own1 hl1 ho1 hI1 Dk Dw D hgo hnext hsome hup hrg hup1 hrg1 hp1 HKN
          go_wp2_with fail
          go_region
          all_goals
            go_wp2_with fail
            go_roundw
            case rel => exact ⟨k + 1, hlt, by go_num, HNX.out⟩
            case measure => simp [intOf] <;> omega
        · rw [if_neg hp1] at hnext
          have b1 : (pk == 1) = false := by simpa using hp1
          by_cases hp2 : pk = 2
          · rw [if_pos hp2] at hnext
            have b2 : (pk == 2) = true := by simpa using hp2
            have Dk : MapAt wr I RK mk s1.size kc := hgo.d.k
            obtain ⟨w6, hst, hm6, ht6⟩ := Dk.store Tryd.underlying88 hup (HKF.out kc hup hrg) x hxb _ none GoodV.torn
            have hnx := hgo.keep hm6 (by rw [← hnext]; exact hup1) (by rw [← hnext]; exact hrg1) ht6
            rw [← hnext, ← HKN.out] at hnx
            have HNX := Lib.hid hnx
            clear hnx hm6 ht6 Dk hgo hnext hsome hup hrg hup1 hrg1 hp1 hp2 HKN
            go_wp2_with fail
            go_roundw
            case rel => exact ⟨k + 1, hlt, by go_num, HNX.out⟩
            case measure => simp [intOf] <;> omega
          · rw [if_neg hp2] at hnext
            have b2 : (pk == 2) = false := by simpa using hp2
            rw [← hnext, ← HKN.out] at hgo
            have HNX := Lib.hid hgo
            clear hgo hnext hsome hup hrg hup1 hrg1 hp1 hp2 HKN
            go_wp2_with fail
            go_roundw
            case rel => exact ⟨k + 1, hlt, by go_num, HNX.out⟩
            case measure => simp [intOf] <;> omega
      · have hp0 : xs.getD k 0 = 0 := by simp [List.getD, List.getElem?_eq_none (by omega : xs.length ≤ k)]
        rw [hp0, if_neg (by decide), if_neg (by decide)] at hnext
        have d3 : decide ((k : Int) < (xs.length : Int)) = false := decide_eq_false (by omega)
        have d4 : decide (k < xs.length) = false := decide_eq_false hpl
        rw [← hnext, ← HKN.out] at hgo
        have HNX := Lib.hid hgo
        clear hgo hnext hsome hup hrg hup1 hrg1 HKN hp0
        go_wp2_with fail
        go_roundw
        case rel => exact ⟨k + 1, hlt, by go_num, HNX.out⟩
        case measure => simp [intOf] <;> omega
    · obtain rfl : k = s1.waits.length := by omega
      have d1 : decide ((s1.waits.length : Int) < (s1.waits.length : Int)) = false := decide_eq_false (by omega)
      have d2 : decide (s1.waits.length < s1.waits.length) = false := decide_eq_false (by omega)
      obtain ⟨q3, w5, hclr, ⟨z1, z2, z3, z4⟩, hD, hT⟩ := hgo.d.returns
      have HD := Lib.hid hD
      have HT := Lib.hid (hgo.t.trans hT)
      clear hgo hD hT
      go_wp2_with fail
      exact bodyPost_end (results_none rfl _ _ _) rfl ⟨rfl, HD.out, HT.out⟩
end Go.Proofs.YtpnodocjpedcmaaDoor.Sec

namespace Go.Proofs.YtpnodocjpedcmaaDoor.Sec
open Go.ChangeShapes Go.WideShapes Go.ChangeAt Go.RowKit Go.Proofs.YtpnodocjpedcmaaDoor.Kit Go.Maps

/-- The world stays. -/
def Tells (v : Value) (w : World) (e : Ending) (w' : World) : Prop := e = .returned v ∧ w = w'

theorem size_nil (w : World) : Calls Tryd.prog 57 #[.pointer none] w (Tells (.int .i64 0) w) := by
  go_enter Tryd.func57, Tryd.ntmps57
  go_wp2
  go_ret
  exact ⟨rfl, rfl⟩
theorem count_nil (w : World) : Calls Tryd.prog 58 #[.pointer none] w (Tells (.int .i64 0) w) := by
  go_enter Tryd.func58, Tryd.ntmps58
  go_wp2
  go_ret
  exact ⟨rfl, rfl⟩
theorem waits_nil (w : World) : Calls Tryd.prog 31 #[.pointer none] w (Tells (.int .i64 0) w) := by
  go_enter Tryd.func31, Tryd.ntmps31
  go_wp2
  go_ret
  exact ⟨rfl, rfl⟩
theorem writes_nil (w : World) : Calls Tryd.prog 32 #[.pointer none] w (Tells (.int .u64 0) w) := by
  go_enter Tryd.func32, Tryd.ntmps32
  go_wp2
  go_ret
  exact ⟨rfl, rfl⟩
theorem isOn_nil (w : World) : Calls Tryd.prog 41 #[.pointer none] w (Tells (.bool false) w) := by
  go_enter Tryd.func41, Tryd.ntmps41
  go_wp2
  go_ret
  exact ⟨rfl, rfl⟩
theorem fuse_nil (n : Int) (w : World) : Calls Tryd.prog 23 #[.pointer none, .int .i64 n] w (Tells (.tuple #[]) w) := by
  go_enter Tryd.func23, Tryd.ntmps23
  go_wp2
  exact bodyPost_end (results_none rfl _ _ _) rfl ⟨rfl, rfl⟩
theorem off_nil (w : World) : Calls Tryd.prog 20 #[.pointer none] w (Tells (.tuple #[]) w) := by
  go_enter Tryd.func20, Tryd.ntmps20
  go_wp2_with (go_at_call 41; refine (isOn_nil _).mono ?_; rintro e w1 ⟨rfl, rfl⟩)
  exact bodyPost_end (results_none rfl _ _ _) rfl ⟨rfl, rfl⟩
theorem back_nil (v : Value) (w : World) : Calls Tryd.prog 14 #[.pointer none, v] w (Tells (.tuple #[]) w) := by
  go_enter Tryd.func14, Tryd.ntmps14
  go_wp2
  exact bodyPost_ret (results_none rfl _ _ _) rfl ⟨rfl, rfl⟩
theorem read_nil (n : Int) (w : World) : Calls Tryd.prog 77 #[.pointer none, .int .i64 n] w (Tells (.tuple #[.slice none 0 0, .int .i64 8]) w) := by
  go_enter Tryd.func77, Tryd.ntmps77
  go_wp2_with (go_at_call 41; refine (isOn_nil _).mono ?_; rintro e w1 ⟨rfl, rfl⟩)
  go_ret2
  exact ⟨rfl, rfl⟩
theorem write_nil (n : Int) (v : Value) (w : World) : Calls Tryd.prog 12 #[.pointer none, .int .i64 n, v] w (Tells (.int .i64 8) w) := by
  go_enter Tryd.func12, Tryd.ntmps12
  go_wp2_with (go_at_call 41; refine (isOn_nil _).mono ?_; rintro e w1 ⟨rfl, rfl⟩)
  go_ret
  exact ⟨rfl, rfl⟩
theorem sync_nil (w : World) : Calls Tryd.prog 53 #[.pointer none] w (Tells (.int .i64 8) w) := by
  go_enter Tryd.func53, Tryd.ntmps53
  go_wp2_with (go_at_call 41; refine (isOn_nil _).mono ?_; rintro e w1 ⟨rfl, rfl⟩)
  go_ret
  exact ⟨rfl, rfl⟩

theorem new_arg (n m : Int) (w : World) (h : n < 128 ∨ 4096 < n ∨ m < 1 ∨ 1048576 < m) : Calls Tryd.prog 10 #[.int .i64 n, .int .i64 m] w (Tells (.tuple #[.pointer none, .int .i64 1]) w) := by
  cases h1 : decide (n < 128) <;> (try cases h2 : decide ((4096 : Int) < n)) <;> (try cases h3 : decide (m < 1)) <;> (try cases h4 : decide ((1048576 : Int) < m))
  case false.false.false.false =>
    simp only [decide_eq_false_iff_not] at h1 h2 h3 h4
    omega
  all_goals
    go_enter Tryd.func10, Tryd.ntmps10
    go_wp2
    go_ret2
    exact ⟨rfl, rfl⟩
end Go.Proofs.YtpnodocjpedcmaaDoor.Sec

namespace Go.Proofs.YtpnodocjpedcmaaDoor.Sec
open Go.ChangeShapes Go.WideShapes Go.ChangeAt Go.RowKit Go.Proofs.YtpnodocjpedcmaaDoor.Kit Go.Maps

/-- The bytes of a step. -/
def stepB (n : Nat) (b : Int) (long : Bool) : List Int := List.replicate n b ++ if long = true then [b] else []

end Go.Proofs.YtpnodocjpedcmaaDoor.Sec

namespace Go.Proofs.YtpnodocjpedcmaaDoor.Sec
open Go.ChangeShapes Go.WideShapes Go.ChangeAt Go.RowKit Go.Proofs.YtpnodocjpedcmaaDoor.Kit Go.Maps

/-- A device of the call's own, some steps on. -/
structure Dev (w0 w : World) (a mk mw : Nat) (s : Dv) : Prop where
  d : DvAt w (fun _ => True) a mk mw s
  b : Below w0.heap.size w0 w
  ga : w0.heap.size ≤ a
  gk : w0.heap.size ≤ mk
  gw : w0.heap.size ≤ mw

section
variable {w0 w w' : World} {a mk mw : Nat} {s s' : Dv}
theorem Dev.below (h : Dev w0 w a mk mw s) (hb : Below w.heap.size w w') : Dev w0 w' a mk mw s :=
  ⟨h.d.below hb, h.b.trans (hb.mono h.b.size), h.ga, h.gk, h.gw⟩
theorem Dev.turn (h : Dev w0 w a mk mw s) {I : Nat → Prop} (hd : DvAt w' I a mk mw s') (t : TurnsIn (DSet a mk mw) w w') : Dev w0 w' a mk mw s' :=
  ⟨hd.mono fun _ _ _ => trivial, h.b.trans (t.toBelow h.b.size fun b hb hs => by
    have h1 := h.ga
    have h2 := h.gk
    have h3 := h.gw
    rcases hs with rfl | rfl | rfl <;> omega), h.ga, h.gk, h.gw⟩
/-- What a step leaves of it. -/
def Moves (w0 : World) (a mk mw : Nat) (w : World) (s' : Dv) (v : Value) (e : Ending) (w' : World) : Prop :=
  e = .returned v ∧ Dev w0 w' a mk mw s' ∧ TurnsIn (DSet a mk mw) w w'
theorem Dev.moves (h : Dev w0 w a mk mw s) {v : Value} {f : Nat} {args : Array Value} (c : Calls Tryd.prog f args w (Leaves (fun _ => True) a mk mw w s' v)) : Calls Tryd.prog f args w (Moves w0 a mk mw w s' v) :=
  c.mono fun _ _ ⟨e, d, t⟩ => ⟨e, h.turn d t, t⟩
end

theorem own_block {w : World} {B : Nat} {e : TypeId} {k : IntKind} {v : Value} {xs : List Int} (h : Own w B e k v xs) (hl : xs.length = 128) : ∃ g cap : Nat, v = .slice (some ⟨g, 0, none⟩) 128 cap := by
  obtain ⟨g, cap, he, _⟩ := h.form (by omega)
  exact ⟨g, cap, by rw [he, hl]⟩

/-- The example's devices. -/
theorem example_ (X : List Int) (hl : X.length = 128) : ∃ s0 s1 s2 s3 s4 : Dv, Dv.new 128 3 = s0 ∧ s0.write 0 X = (0, s1) ∧ s1.back [1] = s2 ∧ s2.read 0 = (X, 0) ∧ s2.write 0 X = (0, s3) ∧ s3.back [2] = s4 ∧ s4.read 0 = ([], 7) ∧
    (s0.offs ≤ 1000000000 ∧ s0.wr ≤ 1000000000) ∧ (s1.offs ≤ 1000000000 ∧ s1.wr ≤ 1000000000) ∧ (s2.offs ≤ 1000000000 ∧ s2.wr ≤ 1000000000) ∧ s3.offs ≤ 1000000000 := by
  refine ⟨_, ⟨128, 3, [], [(0, some X)], false, 0, -1, 1⟩, ⟨128, 3, [(0, some X)], [], false, 1, -1, 1⟩, ⟨128, 3, [(0, some X)], [(0, some X)], false, 1, -1, 2⟩, ⟨128, 3, [(0, none)], [], false, 2, -1, 2⟩, rfl, ?_, ?_, ?_, ?_, ?_, ?_, ?_, ?_, ?_, ?_⟩
  · simp [Dv.write, Dv.writes, Dv.tick, Dv.new, putS, hl]
  · rfl
  · rfl
  · simp [Dv.write, Dv.writes, Dv.tick, putS, hl]
  · rfl
  · rfl
  · exact ⟨by show (0 : Int) ≤ _; decide, by show (0 : Int) ≤ _; decide⟩
  · exact ⟨by show (0 : Int) ≤ _; decide, by show (1 : Int) ≤ _; decide⟩
  · exact ⟨by show (1 : Int) ≤ _; decide, by show (1 : Int) ≤ _; decide⟩
  · show (1 : Int) ≤ _
    decide

end Go.Proofs.YtpnodocjpedcmaaDoor.Sec

namespace Go.Proofs.YtpnodocjpedcmaaDoor.Pt
open Go.ChangeShapes Go.WideShapes Go.ChangeAt Go.RowKit Go.Proofs.YtpnodocjpedcmaaDoor.Kit Go.Proofs.YtpnodocjpedcmaaDoor.Sec

/-- What is read is a sector. -/
def Whole (s : Dv) : Prop := ∀ i xs, s.read i = (xs, 0) → xs.length = s.size ∧ Octets xs
theorem ties_rows {w : World} {I : Nat → Prop} {n : Nat} {es : List (Go.Lit × Go.DataW Unit)} {l : Sl} (h : Ties w I n es l) : ∀ q ∈ l, ∀ xs, q.2 = some xs → xs.length = n ∧ Octets xs := by
  induction h with
  | nil => exact fun q hq => (List.not_mem_nil hq).elim
  | @cons p q es l ht _ ih =>
    intro x hx xs e
    rcases List.mem_cons.1 hx with rfl | hx
    · have := ht.2
      rw [e] at this
      obtain ⟨g, c, _, h1, h2, _⟩ := this
      exact ⟨h1, h2⟩
    · exact ih x hx xs e
theorem whole_of {w : World} {I : Nat → Prop} {a mk mw : Nat} {s : Dv} (h : DvAt w I a mk mw s) : Whole s := by
  obtain ⟨es1, _, h1⟩ := h.k
  obtain ⟨es2, _, h2⟩ := h.wt
  intro i xs e
  unfold Dv.read at e
  split at e
  · cases congrArg Prod.snd e
  split at e
  · cases congrArg Prod.snd e
  split at e
  · rename_i ys hg
    injection e with e _
    subst e
    exact ties_rows h2 _ (mem_getS hg) _ rfl
  · split at e
    · injection e with e _
      subst e
      exact ⟨List.length_replicate, fun x hx => by rw [(List.mem_replicate.1 hx).2]; omega⟩
    · cases congrArg Prod.snd e
    · rename_i ys hg
      injection e with e _
      subst e
      exact ties_rows h1 _ (mem_getS hg) _ rfl

/-- The sector of a byte of a region, the byte, whether it can be read. -/
def secP (s : Dv) (F : Int) (p : Nat) : List Int × Int := s.read (F + (p / s.size : Nat))
def byteP (s : Dv) (F : Int) (p : Nat) : Int := (secP s F p).1.getD (p % s.size) 0
def rowP (s : Dv) (F : Int) (a k : Nat) : List Int := (List.range k).map (fun j => byteP s F (a + j))
def OkP (s : Dv) (F : Int) (a k : Nat) : Prop := ∀ j, j < k → (secP s F (a + j)).2 = 0
/-- What reading n bytes from a on gives. -/
def ReadsP (s : Dv) (F : Int) (a n : Nat) (r : List Int × Int) : Prop :=
  (∃ k, k < n ∧ OkP s F a k ∧ (secP s F (a + k)).2 ≠ 0 ∧ r = ([], (secP s F (a + k)).2)) ∨ (OkP s F a n ∧ r = (rowP s F a n, 0))
theorem reads_one {s : Dv} {F : Int} {a n : Nat} {r t : List Int × Int} (h : ReadsP s F a n r) (g : ReadsP s F a n t) : r = t := by
  rcases h with ⟨k, hk, h1, h2, rfl⟩ | ⟨h1, rfl⟩ <;> rcases g with ⟨l, hl, g1, g2, rfl⟩ | ⟨g1, rfl⟩
  · rcases Nat.lt_trichotomy k l with h | h | h
    · exact absurd (g1 k h) h2
    · rw [h]
    · exact absurd (h1 l h) g2
  · exact absurd (g1 k hk) h2
  · exact absurd (h1 l hl) g2
  · rfl
theorem rowP_length (s : Dv) (F : Int) (a k : Nat) : (rowP s F a k).length = k := by simp [rowP]
theorem rowP_add (s : Dv) (F : Int) (a k m : Nat) : rowP s F a (k + m) = rowP s F a k ++ rowP s F (a + k) m := by
  unfold rowP
  rw [List.range_add, List.map_append, List.map_map]
  congr 1
  refine List.map_congr_left fun j _ => ?_
  show byteP s F (a + (k + j)) = byteP s F (a + k + j)
  rw [Nat.add_assoc]
theorem in_sector {n p m j : Nat} (hm : m ≤ n - p % n) (hj : j < m) : (p + j) / n = p / n ∧ (p + j) % n = p % n + j := by
  rcases Nat.eq_zero_or_pos n with rfl | hn
  · simp at hm
    omega
  · have h1 := Nat.div_add_mod p n
    have h2 := Nat.mod_lt p hn
    have h3 : p + j = n * (p / n) + (p % n + j) := by omega
    refine ⟨?_, ?_⟩
    · rw [h3, Nat.mul_add_div hn, Nat.div_eq_of_lt (by omega : p % n + j < n), Nat.add_zero]
    · rw [h3, Nat.mul_add_mod, Nat.mod_eq_of_lt (by omega)]
theorem secP_same {s : Dv} {F : Int} {p m j : Nat} (hm : m ≤ s.size - p % s.size) (hj : j < m) : secP s F (p + j) = secP s F p := by
  unfold secP
  rw [(in_sector hm hj).1]
/-- A sector's piece. -/
theorem piece {s : Dv} {F : Int} {p m : Nat} {xs : List Int} (hx : xs.length = s.size) (h : secP s F p = (xs, 0)) (hm : m ≤ s.size - p % s.size) : (xs.drop (p % s.size)).take m = rowP s F p m := by
  apply List.ext_getElem
  · rw [List.length_take, List.length_drop, rowP_length, hx]
    omega
  · intro j h1 h1'
    have h2 := h1'
    rw [rowP_length] at h2
    have e : (rowP s F p m)[j]'h1' = byteP s F (p + j) := by simp [rowP]
    rw [e, List.getElem_take, List.getElem_drop]
    unfold byteP
    rw [secP_same hm h2, h, (in_sector hm h2).2]
    simp only
    rw [List.getD, List.getElem?_eq_getElem (by omega : p % s.size + j < xs.length)]
    rfl
theorem okP_add {s : Dv} {F : Int} {a k m : Nat} (h : OkP s F a k) (hm : m ≤ s.size - (a + k) % s.size) (h0 : (secP s F (a + k)).2 = 0) : OkP s F a (k + m) := by
  intro j hj
  by_cases hk : j < k
  · exact h j hk
  · have e : a + j = (a + k) + (j - k) := by omega
    rw [e, secP_same hm (by omega)]
    exact h0
theorem rowP_octets {s : Dv} {F : Int} (hw : Whole s) : ∀ {a k : Nat}, OkP s F a k → Octets (rowP s F a k) := by
  intro a k h x hx
  unfold rowP at hx
  obtain ⟨j, hj, rfl⟩ := List.mem_map.1 hx
  have h0 := h j (List.mem_range.1 hj)
  unfold byteP
  have hr := hw (F + ((a + j) / s.size : Nat)) (secP s F (a + j)).1 (by
    show secP s F (a + j) = _
    rw [← h0])
  rw [List.getD]
  cases hg : (secP s F (a + j)).1[(a + j) % s.size]? with
  | none => simp
  | some y => exact hr.2 y (List.mem_of_getElem? hg)
end Go.Proofs.YtpnodocjpedcmaaDoor.Pt

namespace Go.Proofs.YtpnodocjpedcmaaDoor.Pt
open Go.ChangeShapes Go.WideShapes Go.ChangeAt Go.RowKit Go.Proofs.YtpnodocjpedcmaaDoor.Kit Go.Proofs.YtpnodocjpedcmaaDoor.Sec

/-- Bytes, and zeros to the end of the sector. -/
def padB (n : Nat) (xs : List Int) : List Int := xs ++ List.replicate (n - xs.length) 0
/-- The k-th sector that is written. -/
def chunkP (n : Nat) (bs : List Int) (k : Nat) : List Int := padB n ((bs.drop (k * n)).take n)
theorem padB_length {n : Nat} {xs : List Int} (h : xs.length ≤ n) : (padB n xs).length = n := by
  unfold padB
  rw [List.length_append, List.length_replicate]
  omega
theorem chunkP_length (n : Nat) (bs : List Int) (k : Nat) : (chunkP n bs k).length = n := padB_length (by rw [List.length_take]; omega)
theorem chunkP_octets {n : Nat} {bs : List Int} (h : Octets bs) (k : Nat) : Octets (chunkP n bs k) := by
  intro x hx
  unfold chunkP padB at hx
  rcases List.mem_append.1 hx with hx | hx
  · exact h x (List.mem_of_mem_drop (List.mem_of_mem_take hx))
  · rw [(List.mem_replicate.1 hx).2]
    omega
/-- The device behind k writes. -/
def wrS (s : Dv) (i : Int) (bs : List Int) : Nat → Dv
  | 0 => s
  | k + 1 => ((wrS s i bs k).write (i + k) (chunkP s.size bs k)).2
def errS (s : Dv) (i : Int) (bs : List Int) (k : Nat) : Int := ((wrS s i bs k).write (i + k) (chunkP s.size bs k)).1
def OkW (s : Dv) (i : Int) (bs : List Int) (k : Nat) : Prop := ∀ j, j < k → errS s i bs j = 0
/-- How many sectors are written. -/
def manyP (n : Nat) (bs : List Int) : Nat := (bs.length + n - 1) / n
def WritesP (s : Dv) (i : Int) (bs : List Int) (r : Int × Dv) : Prop :=
  (∃ k, k < manyP s.size bs ∧ OkW s i bs k ∧ errS s i bs k ≠ 0 ∧ r = (errS s i bs k, wrS s i bs (k + 1))) ∨ (OkW s i bs (manyP s.size bs) ∧ r = (0, wrS s i bs (manyP s.size bs)))
theorem writes_one {s : Dv} {i : Int} {bs : List Int} {r t : Int × Dv} (h : WritesP s i bs r) (g : WritesP s i bs t) : r = t := by
  rcases h with ⟨k, hk, h1, h2, rfl⟩ | ⟨h1, rfl⟩ <;> rcases g with ⟨l, hl, g1, g2, rfl⟩ | ⟨g1, rfl⟩
  · rcases Nat.lt_trichotomy k l with h | h | h
    · exact absurd (g1 k h) h2
    · rw [h]
    · exact absurd (h1 l h) g2
  · exact absurd (g1 k hk) h2
  · exact absurd (h1 l hl) g2
  · rfl
theorem manyP_iff {n : Nat} (hn : 0 < n) (bs : List Int) (k : Nat) : k < manyP n bs ↔ k * n < bs.length := by
  unfold manyP
  rw [Nat.lt_iff_add_one_le, Nat.le_div_iff_mul_le hn, Nat.add_mul, Nat.one_mul]
  omega
theorem write_near (s : Dv) (i : Int) (xs : List Int) : (s.write i xs).2.offs ≤ s.offs + 1 ∧ (s.write i xs).2.wr ≤ s.wr + 1 ∧ (s.write i xs).2.size = s.size ∧ (s.write i xs).2.count = s.count := by
  have ht : ∀ u : Dv, u.tick.offs ≤ u.offs + 1 ∧ u.tick.wr = u.wr ∧ u.tick.size = u.size ∧ u.tick.count = u.count := by
    intro u
    unfold Dv.tick Dv.down
    split
    · exact ⟨by omega, rfl, rfl, rfl⟩
    · split
      · split
        · exact ⟨by omega, rfl, rfl, rfl⟩
        · exact ⟨Int.le_refl _, rfl, rfl, rfl⟩
      · exact ⟨by show u.offs ≤ _; omega, rfl, rfl, rfl⟩
  unfold Dv.write
  split
  · exact ⟨by show s.offs ≤ _; omega, by show s.wr ≤ _; omega, rfl, rfl⟩
  split
  · exact ⟨by show s.offs ≤ _; omega, by show s.wr ≤ _; omega, rfl, rfl⟩
  split
  · exact ⟨by show s.offs ≤ _; omega, by show s.wr ≤ _; omega, rfl, rfl⟩
  have h := ht (s.writes i xs)
  split
  · exact ⟨h.1, by have h2 := h.2.1; have h3 : (s.writes i xs).wr = s.wr := rfl; show (s.writes i xs).tick.wr ≤ _; omega, h.2.2.1, h.2.2.2⟩
  · exact ⟨h.1, Int.le_refl _, h.2.2.1, h.2.2.2⟩
theorem wrS_near (s : Dv) (i : Int) (bs : List Int) : ∀ k, (wrS s i bs k).offs ≤ s.offs + k ∧ (wrS s i bs k).wr ≤ s.wr + k ∧ (wrS s i bs k).size = s.size ∧ (wrS s i bs k).count = s.count
  | 0 => ⟨by show s.offs ≤ s.offs + ((0 : Nat) : Int); omega, by show s.wr ≤ s.wr + ((0 : Nat) : Int); omega, rfl, rfl⟩
  | k + 1 => by
    obtain ⟨h1, h2, h3, h4⟩ := wrS_near s i bs k
    obtain ⟨g1, g2, g3, g4⟩ := write_near (wrS s i bs k) (i + k) (chunkP s.size bs k)
    refine ⟨?_, ?_, g3.trans h3, g4.trans h4⟩
    · show ((wrS s i bs k).write (i + k) (chunkP s.size bs k)).2.offs ≤ _
      omega
    · show ((wrS s i bs k).write (i + k) (chunkP s.size bs k)).2.wr ≤ _
      omega
end Go.Proofs.YtpnodocjpedcmaaDoor.Pt

namespace Go.Proofs.YtpnodocjpedcmaaDoor.Pt
open Go.ChangeShapes Go.WideShapes Go.ChangeAt Go.RowKit Go.Proofs.YtpnodocjpedcmaaDoor.Kit Go.Proofs.YtpnodocjpedcmaaDoor.Sec

theorem isin_any (x a b : Int) (w : World) : Calls Tryd.prog 96 #[.int .i64 x, .int .i64 a, .int .i64 b] w fun e w' => e = .returned (.bool (decide (a ≤ x ∧ x ≤ b))) ∧ w = w' := by
  by_cases h1 : a ≤ x
  · by_cases h2 : x ≤ b
    · rw [decide_eq_true (show a ≤ x ∧ x ≤ b from ⟨h1, h2⟩)]
      have q : decide (x ≤ b) = true := by simpa using h2
      go_enter Tryd.func96, Tryd.ntmps96
      go_wp2
      go_ret
      exact ⟨rfl, rfl⟩
    · rw [decide_eq_false (show ¬ (a ≤ x ∧ x ≤ b) from fun h => h2 h.2)]
      have q : decide (x ≤ b) = false := by simpa using h2
      go_enter Tryd.func96, Tryd.ntmps96
      go_wp2
      go_ret
      exact ⟨rfl, rfl⟩
  · rw [decide_eq_false (show ¬ (a ≤ x ∧ x ≤ b) from fun h => h1 h.1)]
    go_enter Tryd.func96, Tryd.ntmps96
    go_wp2
    go_ret
    exact ⟨rfl, rfl⟩

/-- A part of the device in block a lies in block p. -/
def PartAt (w : World) (p a : Nat) (F C : Int) : Prop := Block w p 139 #[.pointer (some ⟨a, 0, none⟩), .int .i64 F, .int .i64 C]
/-- A region that is there; T: how many bytes it has. -/
structure Lies (s : Dv) (F C : Int) (T : Nat) : Prop where
  f0 : 0 ≤ F
  c1 : 1 ≤ C
  fc : F + C ≤ s.count
  t : C * (s.size : Int) = T
theorem Lies.most {s : Dv} {F C : Int} {T : Nat} (h : Lies s F C T) (hs : s.Ok) : T ≤ 4294967296 := by
  have h1 : C ≤ 1048576 := by have := h.fc; have := h.f0; have := hs.c2; omega
  have h2 := h.c1
  have h3 : (s.size : Int) ≤ 4096 := by have := hs.s2; omega
  have h4 : C * (s.size : Int) ≤ 1048576 * 4096 := Int.mul_le_mul h1 h3 (by omega) (by omega)
  have := h.t
  omega

set_option maxRecDepth 100000 in
set_option maxHeartbeats 3200000 in
theorem psize_any (I : Nat → Prop) (p a mk mw : Nat) (F C : Int) (T : Nat) (s : Dv) (w : World) (hp : PartAt w p a F C) (h : DvAt w I a mk mw s) (hl : Lies s F C T) :
    Calls Tryd.prog 97 #[.pointer (some ⟨p, 0, none⟩)] w fun e w' => e = .returned (.int .i64 T) ∧ ∃ n, w' = w.drewN n := by
  have x0 : w.cell? ⟨p, 0, none⟩ = some (.pointer (some ⟨a, 0, none⟩)) := hp.cell 0
  have x1 : w.cell? ⟨p, 1, none⟩ = some (.int .i64 F) := hp.cell 1
  have x2 : w.cell? ⟨p, 2, none⟩ = some (.int .i64 C) := hp.cell 2
  have HD : Hid (∀ n, DvAt (w.drewN n) I a mk mw s) := Lib.hid (fun n => h.below (below_draws (Below.refl _ _) n))
  have hm := hl.t
  have hT := hl.most h.ok
  clear h hl hp
  go_enter Tryd.func97, Tryd.ntmps97
  go_wp2_with fail
  go_quiet ((go_at_call 57; exact Calls.quiet_of_same ((size_any I a mk mw s _ (HD.out _)).mono fun _ _ h => ⟨h.1, h.2.symm⟩)))
  go_wp2_with fail
  go_ret
  exact ⟨rfl, nq, rfl⟩

set_option maxRecDepth 100000 in
set_option maxHeartbeats 3200000 in
theorem has_any (I : Nat → Prop) (p a mk mw : Nat) (F C : Int) (T : Nat) (s : Dv) (x n : Int) (w : World) (hp : PartAt w p a F C) (h : DvAt w I a mk mw s) (hl : Lies s F C T) (hx : -9223372036854775808 ≤ x ∧ x ≤ 9223372036854775807) :
    Calls Tryd.prog 76 #[.pointer (some ⟨p, 0, none⟩), .int .i64 x, .int .i64 n] w fun e w' => e = .returned (.bool (decide (0 ≤ x ∧ x ≤ T ∧ 0 ≤ n ∧ n ≤ T - x))) ∧ ∃ k, w' = w.drewN k := by
  have GS := Lib.hid (fun k => psize_any I p a mk mw F C T s (w.drewN k) hp (h.below (below_draws (Below.refl _ _) k)) hl)
  have GS0 := Lib.hid (psize_any I p a mk mw F C T s w hp h hl)
  have hT := hl.most h.ok
  clear hp h hl
  by_cases h1 : 0 ≤ x ∧ x ≤ (T : Int)
  · rw [show decide (0 ≤ x ∧ x ≤ (T : Int) ∧ 0 ≤ n ∧ n ≤ (T : Int) - x) = decide (0 ≤ n ∧ n ≤ (T : Int) - x) by rw [decide_eq_decide]; omega]
    have GI1 := Lib.hid (fun W => isin_any x 0 T W)
    have GI2 := Lib.hid (fun W => isin_any n 0 ((T : Int) - x) W)
    rw [decide_eq_true h1] at GI1
    generalize decide (0 ≤ n ∧ n ≤ (T : Int) - x) = b at *
    go_enter Tryd.func76, Tryd.ntmps76
    go_wp2_with (first
      | (go_at_call 97; (with_reducible refine GS0.out.mono ?_); rintro e w1 ⟨rfl, k1, rfl⟩; clear GS0)
      | (go_at_call 97; (with_reducible refine (GS.out k1).mono ?_); rintro e w1 ⟨rfl, k2, rfl⟩)
      | (go_at_call 96; (with_reducible refine (GI1.out _).mono ?_); rintro e w1 ⟨rfl, rfl⟩)
      | (go_at_call 96; (with_reducible refine (GI2.out _).mono ?_); rintro e w1 ⟨rfl, rfl⟩))
    go_ret
    exact ⟨rfl, k1 + k2, rfl⟩
  · rw [decide_eq_false (fun h => h1 ⟨h.1, h.2.1⟩)]
    have GI1 := Lib.hid (fun W => isin_any x 0 T W)
    rw [decide_eq_false h1] at GI1
    go_enter Tryd.func76, Tryd.ntmps76
    go_wp2_with (first
      | (go_at_call 97; (with_reducible refine GS0.out.mono ?_); rintro e w1 ⟨rfl, k1, rfl⟩)
      | (go_at_call 96; (with_reducible refine (GI1.out _).mono ?_); rintro e w1 ⟨rfl, rfl⟩))
    go_ret
    exact ⟨rfl, k1, rfl⟩
end Go.Proofs.YtpnodocjpedcmaaDoor.Pt

namespace Go.Proofs.YtpnodocjpedcmaaDoor.Pt
open Go.ChangeShapes Go.WideShapes Go.ChangeAt Go.RowKit Go.Proofs.YtpnodocjpedcmaaDoor.Kit Go.Proofs.YtpnodocjpedcmaaDoor.Sec

def PRead (s : Dv) (F : Int) (T : Nat) (x n : Int) (r : List Int × Int) : Prop :=
  if 0 ≤ x ∧ x ≤ T ∧ 0 ≤ n ∧ n ≤ T - x then ReadsP s F x.toNat n.toNat r else r = ([], 5)

set_option maxRecDepth 100000 in
set_option maxHeartbeats 6400000 in
theorem pread_any (I : Nat → Prop) (p a mk mw : Nat) (F C : Int) (T : Nat) (s : Dv) (x n : Int) (w : World) (hp : PartAt w p a F C) (h : DvAt w I a mk mw s) (hl : Lies s F C T) (hx : -9223372036854775808 ≤ x ∧ x ≤ 9223372036854775807) :
    Calls Tryd.prog 49 #[.pointer (some ⟨p, 0, none⟩), .int .i64 x, .int .i64 n] w fun e w' => ∃ r, PRead s F T x n r ∧ GivesB r.1 r.2 w e w' := by
  have GH := Lib.hid (has_any I p a mk mw F C T s x n w hp h hl hx)
  unfold PRead
  by_cases hin : 0 ≤ x ∧ x ≤ (T : Int) ∧ 0 ≤ n ∧ n ≤ (T : Int) - x
  · rw [decide_eq_true hin] at GH
    obtain ⟨b, rfl⟩ : ∃ b : Nat, x = (b : Int) := ⟨x.toNat, by omega⟩
    obtain ⟨N, rfl⟩ : ∃ N : Nat, n = (N : Int) := ⟨n.toNat, by omega⟩
    simp only [if_pos hin, Int.toNat_natCast]
    have hT := hl.most h.ok
    have hs1 := h.ok.s1
    have hs2 := h.ok.s2
    have hW := Lib.hid (whole_of h)
    have HL := Lib.hid hl
    have HPD := Lib.hid (fun W (hb : Below w.heap.size w W) => (⟨hp.below hb (Block.lt hp), h.below hb⟩ : PartAt W p a F C ∧ DvAt W I a mk mw s))
    clear hp h hl hx
    go_enter Tryd.func49, Tryd.ntmps49
    go_wp2_with (go_at_call 76; (with_reducible refine GH.out.mono ?_); rintro e w1 ⟨rfl, k1, hk1⟩
                 have B1 : Below w.heap.size w w1 := by rw [hk1]; exact below_draws (Below.refl _ _) k1
                 have x0 : w1.cell? ⟨p, 0, none⟩ = some (.pointer (some ⟨a, 0, none⟩)) := (HPD.out _ B1).1.cell 0
                 clear hk1 GH)
    refine (size_any I a mk mw s _ (HPD.out _ B1).2).mono ?_
    rintro e w2 ⟨rfl, rfl⟩
    go_wp2_with (at_make; refine wpList_make_ints _ rfl _ _ _ rfl elem8 0 N rfl rfl rfl rfl (Nat.zero_le _) (by omega) ?_; intro w2 own2 hb2 hz2)
    have own3 : Own w2 w.heap.size 5 .u8 (.slice (some ⟨w1.heap.size, 0, none⟩) 0 N) (rowP s F b 0) := own2.mono B1.size
    have B2 := B1.trans (hb2.mono B1.size)
    have HO3 := Lib.hid own3
    clear own2 own3 hb2 hz2 x0
    have hCS := HL.out.t
    go_loopw [1, 9] (fun q v wr => ∃ P k : Nat, P = b + k ∧ k ≤ N ∧ q = .int .i64 (P : Int) ∧ Own wr w.heap.size 5 .u8 v (rowP s F b k) ∧ OkP s F b k ∧ Below w.heap.size w wr) (fun q _ _ => b + N - (intOf q).toNat)
    case atStart => exact ⟨b, 0, rfl, Nat.zero_le _, rfl, HO3.out, fun j hj => absurd hj (by omega), B2⟩
    case round =>
      clear HO3 B2 B1
      obtain ⟨P, k, hP, hk, rfl, own, hok, hb⟩ := hrel
      obtain ⟨A2, c2, hv, hc2, hm2, -⟩ := own.opened
      rw [rowP_length] at hv hc2
      subst hv
      by_cases hlt : k < N
      · have d0 : decide ((k : Int) < (N : Int)) = true := decide_eq_true (by omega)
        obtain ⟨xs, E, hsec⟩ : ∃ xs E, secP s F P = (xs, E) := ⟨_, _, rfl⟩
        obtain ⟨Q, hQ⟩ : ∃ Q : Nat, P / s.size = Q := ⟨_, rfl⟩
        have hPT : (Q : Int) < C := by
          have h1 : P / s.size * s.size ≤ P := Nat.div_mul_le_self _ _
          rw [hQ] at h1
          have h2 : ((Q * s.size : Nat) : Int) < C * (s.size : Int) := by omega
          rw [Int.natCast_mul] at h2
          exact Int.lt_of_mul_lt_mul_right h2 (by omega)
        have hq11 : (P : Int).tdiv (s.size : Int) = (Q : Int) := by rw [← hQ]; exact (Int.ofNat_tdiv P s.size).symm
        have hFC := HL.out.fc
        have hF0 := HL.out.f0
        have hcnt : (s.count : Int) ≤ 1048576 := by have := (HPD.out _ hb).2.ok.c2; omega
        have GRD : Hid (∀ W, Below w.heap.size w W → Calls Tryd.prog 77 #[.pointer (some ⟨a, 0, none⟩), .int .i64 (F + (Q : Int))] W (GivesB xs E W)) := Lib.hid (fun W hB => by
          have := read_any I a mk mw s (F + (Q : Int)) W (HPD.out _ hB).2 (by omega)
          have e : s.read (F + (Q : Int)) = (xs, E) := by rw [← hQ]; exact hsec
          rwa [e] at this)
        have HS := Lib.hid hsec
        have HPk := Lib.hid hP
        have HOK := Lib.hid hok
        clear hsec hok hP
        have hsz : ¬ s.size = 0 := by omega
        go_wp2_with fail
        refine wp_region_held_drew (S := (fun W => PartAt W p a F C)) (by kernel_rfl) (HPD.out _ hb).1 (fun hS => ?_)
        refine wpAnyH_take (i := 0) (oi := ⟨some 31, _, _, _, _, _⟩) (v := .pointer (some ⟨p, 0, none⟩)) rfl (by kernel_rfl) (by kernel_rfl) (by kernel_rfl) (fun _ _ _ h => h) (Or.inl ⟨by rfl, fun W hW => by go_simp⟩) hS ?_
        try simp only [Act.put, List.setIfInBounds_toArray, List.set_cons_zero, List.set_cons_succ]
        refine wpAnyH_take (i := 4) (oi := ⟨some 35, _, _, _, _, _⟩) (v := .pointer (some ⟨p, 0, none⟩)) rfl (by kernel_rfl) (by kernel_rfl) (by kernel_rfl) (fun _ _ _ h => h) (Or.inl ⟨by rfl, fun W hW => by go_simp⟩) hS ?_
        try simp only [Act.put, List.setIfInBounds_toArray, List.set_cons_zero, List.set_cons_succ]
        refine wpAnyH_take (i := 9) (oi := ⟨some 40, _, _, _, _, _⟩) (v := .int .i64 (P : Int)) rfl (by kernel_rfl) (by kernel_rfl) (by kernel_rfl) (fun _ _ _ h => h) (Or.inl ⟨by rfl, fun W hW => by go_simp⟩) hS ?_
        try simp only [Act.put, List.setIfInBounds_toArray, List.set_cons_zero, List.set_cons_succ]
        refine wpAnyH_take (i := 10) (oi := ⟨some 41, _, _, _, _, _⟩) (v := .int .i64 (s.size : Int)) rfl (by kernel_rfl) (by kernel_rfl) (by kernel_rfl) (fun _ _ _ h => h) (Or.inl ⟨by rfl, fun W hW => by go_simp⟩) hS ?_
        try simp only [Act.put, List.setIfInBounds_toArray, List.set_cons_zero, List.set_cons_succ]
        refine wpAnyH_take (i := 1) (oi := ⟨some 32, _, _, _, _, _⟩) (v := .pointer (some ⟨p, 0, none⟩)) rfl (by kernel_rfl) (by kernel_rfl) (by kernel_rfl) (fun _ _ _ h => h) (Or.inl ⟨by rfl, fun W hW => by go_simp⟩) hS ?_
        try simp only [Act.put, List.setIfInBounds_toArray, List.set_cons_zero, List.set_cons_succ]
        refine wpAnyH_take (i := 5) (oi := ⟨some 36, _, _, _, _, _⟩) (v := .pointer (some ⟨p, 0, none⟩)) rfl (by kernel_rfl) (by kernel_rfl) (by kernel_rfl) (fun _ _ _ h => h) (Or.inl ⟨by rfl, fun W hW => by go_simp⟩) hS ?_
        try simp only [Act.put, List.setIfInBounds_toArray, List.set_cons_zero, List.set_cons_succ]
        refine wpAnyH_take (i := 11) (oi := ⟨some 42, _, _, _, _, _⟩) (v := .int .i64 (Q : Int)) rfl (by kernel_rfl) (by kernel_rfl) (by kernel_rfl) (fun _ _ _ h => h) (Or.inl ⟨by rfl, fun W hW => by go_simp; first | exact IntWalk.i64_in _ (by omega) | (rw [hq11]; exact IntWalk.i64_in _ (by omega))⟩) hS ?_
        try simp only [Act.put, List.setIfInBounds_toArray, List.set_cons_zero, List.set_cons_succ]
        refine wpAnyH_take (i := 2) (oi := ⟨some 33, _, _, _, _, _⟩) (v := .pointer (some ⟨p, 0, none⟩)) rfl (by kernel_rfl) (by kernel_rfl) (by kernel_rfl) (fun _ _ _ h => h) (Or.inl ⟨by rfl, fun W hW => by go_simp⟩) hS ?_
        try simp only [Act.put, List.setIfInBounds_toArray, List.set_cons_zero, List.set_cons_succ]
        refine wpAnyH_take (i := 6) (oi := ⟨some 37, _, _, _, _, _⟩) (v := .pointer (some ⟨p, 1, none⟩)) rfl (by kernel_rfl) (by kernel_rfl) (by kernel_rfl) (fun _ _ _ h => h) (Or.inl ⟨by rfl, fun W hW => by go_simp⟩) hS ?_
        try simp only [Act.put, List.setIfInBounds_toArray, List.set_cons_zero, List.set_cons_succ]
        refine wpAnyH_take (i := 3) (oi := ⟨some 34, _, _, _, _, _⟩) (v := .pointer (some ⟨a, 0, none⟩)) rfl (by kernel_rfl) (by kernel_rfl) (by kernel_rfl) (fun _ _ _ h => h) (Or.inl ⟨by rfl, fun W hW => by have q0 : W.cell? ⟨p, 0, none⟩ = some (.pointer (some ⟨a, 0, none⟩)) := Block.cell hW 0; have q1 : W.cell? ⟨p, 1, none⟩ = some (.int .i64 F) := Block.cell hW 1; go_simp⟩) hS ?_
        try simp only [Act.put, List.setIfInBounds_toArray, List.set_cons_zero, List.set_cons_succ]
        refine wpAnyH_take (i := 7) (oi := ⟨some 38, _, _, _, _, _⟩) (v := .pointer (some ⟨p, 1, none⟩)) rfl (by kernel_rfl) (by kernel_rfl) (by kernel_rfl) (fun _ _ _ h => h) (Or.inl ⟨by rfl, fun W hW => by go_simp⟩) hS ?_
        try simp only [Act.put, List.setIfInBounds_toArray, List.set_cons_zero, List.set_cons_succ]
        refine wpAnyH_take (i := 8) (oi := ⟨some 39, _, _, _, _, _⟩) (v := .int .i64 F) rfl (by kernel_rfl) (by kernel_rfl) (by kernel_rfl) (fun _ _ _ h => h) (Or.inl ⟨by rfl, fun W hW => by have q0 : W.cell? ⟨p, 0, none⟩ = some (.pointer (some ⟨a, 0, none⟩)) := Block.cell hW 0; have q1 : W.cell? ⟨p, 1, none⟩ = some (.int .i64 F) := Block.cell hW 1; go_simp⟩) hS ?_
        try simp only [Act.put, List.setIfInBounds_toArray, List.set_cons_zero, List.set_cons_succ]
        refine wpAnyH_take (i := 12) (oi := ⟨some 43, _, _, _, _, _⟩) (v := .int .i64 (F + (Q : Int))) rfl (by kernel_rfl) (by kernel_rfl) (by kernel_rfl) (fun _ _ _ h => h) (Or.inl ⟨by rfl, fun W hW => by go_simp; exact IntWalk.i64_in _ (by omega)⟩) hS ?_
        try simp only [Act.put, List.setIfInBounds_toArray, List.set_cons_zero, List.set_cons_succ]
        refine wpAnyH_ready (rs := [13]) (by kernel_rfl) (by simp) ?_
        refine AllReadyH.cons rfl (fun K hK => ?_) AllReadyH.nil
        go_simp
        go_at_call 77
        refine (GRD.out _ (below_draws hb 1)).mono ?_
        rintro e x1 ⟨v1, rfl, own1, hb1⟩
        have hbx := (below_draws hb 1).trans (hb1.mono hb.size)
        have own9 : Own x1 w.heap.size 5 .u8 (.slice A2 k c2) (rowP s F b k) := (Own.drewN own 1).below hb1
        have own1 := own1.mono (show w.heap.size ≤ wr.heap.size from hb.size)
        refine hK.out _ _ (HPD.out _ hbx).1 (fun hS => ?_)
        clear hK K
        try simp only [Act.put, List.setIfInBounds_toArray, List.set_cons_zero, List.set_cons_succ]
        refine wpAnyH_take (i := 14) (oi := ⟨some 30, _, _, _, _, _⟩) (v := .tuple #[v1, .int .i64 E]) rfl (by kernel_rfl) (by kernel_rfl) (by kernel_rfl) (fun _ _ _ h => h) (Or.inl ⟨by rfl, fun W hW => by go_simp⟩) hS ?_
        try simp only [Act.put, List.setIfInBounds_toArray, List.set_cons_zero, List.set_cons_succ]
        refine wpAnyH_take (i := 15) (oi := ⟨some 45, _, _, _, _, _⟩) (v := v1) rfl (by kernel_rfl) (by kernel_rfl) (by kernel_rfl) (fun _ _ _ h => h) (Or.inl ⟨by rfl, fun W hW => by go_simp⟩) hS ?_
        try simp only [Act.put, List.setIfInBounds_toArray, List.set_cons_zero, List.set_cons_succ]
        refine wpAnyH_take (i := 16) (oi := ⟨some 46, _, _, _, _, _⟩) (v := .int .i64 E) rfl (by kernel_rfl) (by kernel_rfl) (by kernel_rfl) (fun _ _ _ h => h) (Or.inl ⟨by rfl, fun W hW => by go_simp⟩) hS ?_
        try simp only [Act.put, List.setIfInBounds_toArray, List.set_cons_zero, List.set_cons_succ]
        refine wpAnyH_ready (rs := [17]) (by kernel_rfl) (by simp) ?_
        refine AllReadyH.cons rfl (fun K hK => ?_) AllReadyH.nil
        go_simp
        refine hK.out _ _ (HPD.out _ hbx).1 (fun hS => ?_)
        clear hK K
        try simp only [Act.put, List.setIfInBounds_toArray, List.set_cons_zero, List.set_cons_succ]
        refine wpAnyH_ready (rs := [18]) (by kernel_rfl) (by simp) ?_
        refine AllReadyH.cons rfl (fun K hK => ?_) AllReadyH.nil
        go_simp
        refine hK.out _ _ (HPD.out _ hbx).1 (fun hS => ?_)
        clear hK K
        try simp only [Act.put, List.setIfInBounds_toArray, List.set_cons_zero, List.set_cons_succ]
        refine wpAnyH_done (by kernel_rfl) ?_ _
        have HD1 := HPD.out _ hbx
        by_cases hE : E = 0
        · subst hE
          have hrow := hW.out
          have hxs := (hW.out (F + (Q : Int)) xs (by rw [← hQ]; exact HS.out)).1
          obtain ⟨g1, c1, hv1, hg1, hg2, hc1, hm1⟩ := own1.form (by omega)
          subst hv1
          have hh1 : Holds x1 x1.heap.size .u8 (some ⟨g1, 0, none⟩) xs := by
            obtain ⟨A9, c9, he9, -, -, hh9⟩ := own1.opened
            injection he9 with e1 e2 e3
            subst e1
            exact hh9
          rw [hxs] at hc1
          have hrem : (P : Int).tmod (s.size : Int) = ((P % s.size : Nat) : Int) := (Int.ofNat_tmod P s.size).symm
          obtain ⟨r, hr⟩ : ∃ r, P % s.size = r := ⟨_, rfl⟩
          have hrl : r < s.size := by rw [← hr]; exact Nat.mod_lt _ (by omega)
          rw [hr] at hrem
          have hc1r : ¬ c1 = r := by omega
          rw [hxs]
          obtain ⟨m, hmm⟩ : ∃ m : Nat, m = min (s.size - r) (N - k) := ⟨_, rfl⟩
          have hyl : ((xs.drop r).take m).length = m := by rw [List.length_take, List.length_drop, hxs]; omega
          have hys : (xs.drop r).take m = rowP s F (b + k) m := by
            have := piece (m := m) hxs HS.out (by rw [hr]; omega)
            rw [hr] at this
            rw [this, HPk.out]
          have HY := Lib.hid hys
          have hh2 := hh1.sub r m (by rw [hxs]; omega)
          rw [Nat.zero_add] at hh2
          have HOK2 := Lib.hid (okP_add (m := m) HOK.out (by rw [← HPk.out, hr]; omega) (by rw [← HPk.out, HS.out]))
          generalize hyy : (xs.drop r).take m = ys at *
          clear hyy hys hh1 hrow hxs
          obtain ⟨L, hL⟩ : ∃ L, s.size - r = L := ⟨_, rfl⟩
          have hr0 : (r : Int) ≤ (s.size : Int) := by omega
          have hmn : min (L : Int) ((N : Int) - (k : Int)) = (m : Int) := by omega
          have hml : (m : Int) ≤ (L : Int) := by omega
          have hmp : 0 < m := by omega
          have hmk : k + m ≤ N := by omega
          have HL2 := Lib.hid hL
          have d1 : (decide ((L : Int) ≤ (N : Int) - (k : Int)) = true ∧ L = m) ∨ (decide ((L : Int) ≤ (N : Int) - (k : Int)) = false ∧ N - k = m) := by
            by_cases h : L ≤ N - k
            · exact Or.inl ⟨decide_eq_true (by omega), by omega⟩
            · exact Or.inr ⟨decide_eq_false (by omega), by omega⟩
          have HMT : Hid ((min (L : Int) ((N : Int) - (k : Int))).toNat = m) := Lib.hid (by omega)
          have hbz := hbx.size
          have hyl2 : (rowP s F b k ++ ys).length = k + m := by rw [List.length_append, rowP_length, hyl]
          clear d1 hmn
          go_wp2_with (at_builtin; rw [HMT.out]; refine wpList_append_ints (ys := ys) _ rfl (.tmp 64) (.tmp 65) 22 rfl elem8 own9 rfl (by rw [hyl]; rfl) hh2 (by rw [rowP_length, hyl]; omega) hbz ?_; intro v7 w7 own7 g7 hb7 _)
          have own7 : Own w7 w.heap.size 5 .u8 v7 (rowP s F b (k + m)) := by rw [rowP_add, ← HY.out]; exact own7
          have HO7 := Lib.hid own7
          have hb8 := Lib.hid (hbx.trans hb7)
          clear own7 own9 own1 g7 hb7 HD1 hbx hh2 hb1 own
          have hmN : min L (N - k) = m := by omega
          have hPb : P + m ≤ 8589934592 := by have := HPk.out; omega
          have hw64 := Lib.hid (IntWalk.wrap64_in ((P : Int) + ((min L (N - k) : Nat) : Int)) (by rw [hmN]; omega))
          go_wp2_with fail
          go_roundw
          case rel => exact ⟨P + m, k + m, by rw [HPk.out]; omega, hmk, by (congr 1; exact hw64.out.trans (by rw [hmN, Int.natCast_add])), HO7.out, HOK2.out, hb8.out⟩
          case measure =>
            have := HPk.out
            rw [hw64.out, hmN]
            simp only [intOf]
            omega
        · have d1 : (E != 0) = true := by simpa using hE
          go_wp2_with fail
          go_ret2
          exact ⟨([], E), Or.inl ⟨k, hlt, HOK.out, by rw [← HPk.out, HS.out]; exact hE, by rw [← HPk.out, HS.out]⟩, _, rfl, Own.nil x1 w.heap.size 5 .u8, hbx⟩
      · obtain rfl : k = N := by omega
        have d0 : decide ((k : Int) < (k : Int)) = false := decide_eq_false (by omega)
        clear hlt
        go_wp2_with fail
        go_ret2
        exact ⟨(rowP s F b k, 0), Or.inr ⟨hok, rfl⟩, _, rfl, own, hb⟩
  · rw [decide_eq_false hin] at GH
    simp only [if_neg hin]
    clear hp h hl hx hin
    go_enter Tryd.func49, Tryd.ntmps49
    go_wp2_with (go_at_call 76; (with_reducible refine GH.out.mono ?_); rintro e w1 ⟨rfl, k1, hk1⟩
                 have B1 : Below w.heap.size w w1 := by rw [hk1]; exact below_draws (Below.refl _ _) k1
                 clear hk1 GH)
    go_ret2
    exact ⟨_, rfl, _, rfl, Own.nil w1 w.heap.size 5 .u8, B1⟩
end Go.Proofs.YtpnodocjpedcmaaDoor.Pt

namespace Go.Proofs.YtpnodocjpedcmaaDoor.Pt
open Go.ChangeShapes Go.WideShapes Go.ChangeAt Go.RowKit Go.Proofs.YtpnodocjpedcmaaDoor.Kit Go.Proofs.YtpnodocjpedcmaaDoor.Sec

/-- copy(v, ys), ys of any length. -/
theorem wpList_copy_some {P : Program} {w : World} {ops : Array Oper} {rest : List Oper} {o : Oper} {a : Act} {Q : Exit → Act → World → Prop} (hgd : o.guard = none) (d s : Operand) (t : TypeId)
    (ho : o.op = .call { callee := .builtin .copy, args := #[d, s], argTypes := #[t, t] }) {e : TypeId} {k : IntKind} {bytes : Nat} (he : IntElem P t e k bytes)
    {B B' : Nat} {v : Value} {xs ys : List Int} (hown : Own w B e k v xs) (hd : a.eval d = v) {A : Option Addr} {c : Nat} (hs : a.eval s = .slice A ys.length c) (hr : Holds w B' k A ys)
    (hx : 0 < xs.length) (hy : 0 < ys.length) (hbase : B ≤ w.heap.size)
    (h : ∀ w', Own w' B e k v (ys.take xs.length ++ xs.drop ys.length) → w.grownBy w' v.ownBlock → Below B w w' → wpList P ops Q rest (a.put o.dst (goInt (ys.take xs.length).length)) w') :
    wpList P ops Q (o :: rest) a w := by
  obtain ⟨ht, hinfo, hb8⟩ := he
  obtain ⟨i, hi, hz, hsi, hby⟩ := info_parts hinfo
  have hsz : (P.info? e).map (·.size) = some 1 := by rw [hi]; simp [hsi]
  obtain ⟨b, off, rfl, hb, hc⟩ := hr hy
  rcases hown.2 with ⟨rfl, h1⟩ | ⟨g, cap, cur, rfl, hbg, hg, hnc, hcm, hcs, htake⟩
  · omega
  · have hzl : (ys.take xs.length).length ≤ xs.length := by rw [List.length_take]; omega
    have hz0 : 0 < (ys.take xs.length).length := by rw [List.length_take]; omega
    have hdr : xs.drop ys.length = xs.drop (ys.take xs.length).length := by
      rw [List.length_take]
      by_cases hh : xs.length ≤ ys.length
      · rw [List.drop_of_length_le hh, List.drop_of_length_le (by omega)]
      · rw [Nat.min_eq_right (by omega)]
    rw [hdr] at h
    have hgz : ∀ j, j < (ys.take xs.length).length → (ys.take xs.length).getD j 0 = ys.getD j 0 := fun j hj => by
      rw [List.length_take] at hj
      rw [List.getD, List.getD, List.getElem?_take, if_pos (by omega)]
    have hmin : (ys.take xs.length).length = Nat.min ys.length xs.length := by rw [List.length_take]; exact Nat.min_comm _ _
    have hzy : (ys.take xs.length).length ≤ ys.length := by rw [List.length_take]; omega
    generalize ys.take xs.length = zs at *
    refine wpList_copy_own hgd d s t t ho e ht hsz g 0 xs.length cap ⟨b, off, none⟩ ys.length c hd hs cur e hg (zs.map (Value.int k)) (by rw [List.length_map]; exact hmin) ?_ (by simp; omega) (ints_one k zs) ?_
    · intro j u hu
      obtain ⟨hj, rfl⟩ := get_ints hu
      rw [add_plain, hgz j hj]
      exact hc j (by omega)
    · have hlen : (zs ++ xs.drop zs.length).length = xs.length := by simp; omega
      have hgrown : w.grownBy (w.setRow g (cur.toList.take 0 ++ (zs.map (Value.int k) ++ cur.toList.drop (0 + (zs.map (Value.int k)).length))).toArray) (some g) :=
        ⟨rfl, rfl, rfl, by simp [World.setRow], fun j _ hj => setRow_other w g j _ (fun e => hj (by rw [e]))⟩
      rw [show goInt (zs.map (Value.int k)).length = goInt zs.length by simp]
      refine h _ ?_ hgrown (below_of_grown hgrown hbase fun g' hg' => by simp at hg'; omega)
      refine ⟨by simp, .inr ⟨g, cap, _, by rw [hlen], hbg, setRow_heap w g _ _ e _ hg, by omega, hcm, ?_, ?_⟩⟩
      · simp; omega
      · rw [hlen]
        simp only [Nat.mul_one] at htake ⊢
        simp only [List.take_zero, List.nil_append, Nat.zero_add, List.length_map, List.map_append, List.map_drop]
        rw [List.take_append, List.length_map, List.take_of_length_le (by simp; omega), ← htake, List.drop_take]

def PWrite (s : Dv) (F : Int) (T : Nat) (x : Int) (bs : List Int) (r : Int × Dv) : Prop :=
  if x.tmod s.size ≠ 0 then r = (1, s) else if 0 ≤ x ∧ x ≤ T ∧ 0 ≤ (bs.length : Int) ∧ (bs.length : Int) ≤ T - x then WritesP s (F + (x.toNat / s.size : Nat)) bs r else r = (5, s)
/-- Behind k writes. -/
structure WGoing (I : Nat → Prop) (w0 w : World) (a mk mw : Nat) (s : Dv) (i : Int) (bs : List Int) (k : Nat) (A : Option Addr) : Prop where
  d : DvAt w I a mk mw (wrS s i bs k)
  t : TurnsIn (DSet a mk mw) w0 w
  ok : OkW s i bs k
  r : Holds w w0.heap.size .u8 A (bs.drop (k * s.size))

set_option maxRecDepth 100000 in
set_option maxHeartbeats 6400000 in
theorem pwrite_any (I : Nat → Prop) (p a mk mw : Nat) (F C : Int) (T : Nat) (s : Dv) (x : Int) (A : Option Addr) (bs : List Int) (c : Nat) (w : World) (hp : PartAt w p a F C) (h : DvAt w I a mk mw s) (hI : ∀ g, w.heap.size ≤ g → I g) (hl : Lies s F C T) (hx : -9223372036854775808 ≤ x ∧ x ≤ 9223372036854775807)
    (hbl : bs.length ≤ 1000000) (hbc : bs.length ≤ c) (hcm : c ≤ maxLen) (hbo : Octets bs) (hr : Holds w w.heap.size .u8 A bs) (hof : s.offs ≤ 100000000) (hwr : s.wr ≤ 100000000) :
    Calls Tryd.prog 54 #[.pointer (some ⟨p, 0, none⟩), .int .i64 x, .slice A bs.length c] w fun e w' => ∃ r, PWrite s F T x bs r ∧ e = .returned (.int .i64 r.1) ∧ DvAt w' I a mk mw r.2 ∧ TurnsIn (DSet a mk mw) w w' := by
  have GS := Lib.hid (size_any I a mk mw s w h)
  have x0 : w.cell? ⟨p, 0, none⟩ = some (.pointer (some ⟨a, 0, none⟩)) := hp.cell 0
  have hs1 := h.ok.s1
  have hs2 := h.ok.s2
  unfold PWrite
  by_cases hm : x.tmod s.size = 0
  · simp only [if_neg (not_not_intro hm)]
    have b0 : (x.tmod (s.size : Int) != 0) = false := by rw [hm]; rfl
    have hsz : ¬ s.size = 0 := by omega
    have GH := Lib.hid (has_any I p a mk mw F C T s x bs.length w hp h hl hx)
    by_cases hin : 0 ≤ x ∧ x ≤ (T : Int) ∧ 0 ≤ (bs.length : Int) ∧ (bs.length : Int) ≤ (T : Int) - x
    · rw [decide_eq_true hin] at GH
      obtain ⟨b, rfl⟩ : ∃ b : Nat, x = (b : Int) := ⟨x.toNat, by omega⟩
      simp only [if_pos hin, Int.toNat_natCast]
      have hT := hl.most h.ok
      have HL := Lib.hid hl
      have HD1 := Lib.hid (fun W (t : TurnsIn (DSet a mk mw) w W) => (Block.out hp t (h.not_cells hp (by decide)) : PartAt W p a F C))
      have HDB := Lib.hid h
      have HR := Lib.hid (fun W (t : TurnsIn (DSet a mk mw) w W) => h.holds t hr (Nat.le_refl _))
      have HI := Lib.hid hI
      have HOK := Lib.hid h.ok
      have hcnt : (s.count : Int) ≤ 1048576 := by have := h.ok.c2; omega
      have HFC := hl.fc
      have HF0 := hl.f0
      have hCS := hl.t
      have HNear := Lib.hid (fun k => wrS_near s (F + ((b / s.size : Nat) : Int)) bs k)
      obtain ⟨z, hz⟩ : ∃ z, s.size = z := ⟨_, rfl⟩
      have HZ := Lib.hid hz
      rw [hz] at hm b0 hsz hs1 hs2 GS hCS HNear ⊢
      obtain ⟨i0, hi0⟩ : ∃ i0, F + ((b / z : Nat) : Int) = i0 := ⟨_, rfl⟩
      rw [hi0] at HNear ⊢
      have HI0 := Lib.hid hi0
      clear hp h hr hI hl hx hz hi0
      go_enter Tryd.func54, Tryd.ntmps54
      go_wp2_with (first
        | (have _t := x0; go_at_call 57; (with_reducible refine GS.out.mono ?_); rintro e w1 ⟨rfl, rfl⟩; clear x0)
        | (go_at_call 76; (with_reducible refine GH.out.mono ?_); rintro e w1 ⟨rfl, k1, hk1⟩
           have T1 : TurnsIn (DSet a mk mw) w w1 := by rw [hk1]; exact (TurnsIn.refl _ w).drewN k1
           have D1 : DvAt w1 I a mk mw s := by rw [hk1]; exact HDB.out.below (below_draws (Below.refl _ _) k1)
           have x1 : w1.cell? ⟨p, 0, none⟩ = some (.pointer (some ⟨a, 0, none⟩)) := (HD1.out _ T1).cell 0
           clear hk1 GH))
      refine (size_any I a mk mw s _ D1).mono ?_
      rintro e w2 ⟨rfl, rfl⟩
      rw [HZ.out]
      go_wp2_with fail
      have HT1 := Lib.hid T1
      have HDD := Lib.hid D1
      clear T1 D1 x1
      go_loopw [1, 2] (fun q v wr => ∃ (P k : Nat) (A' : Option Addr) (c' : Nat), P = b + k * z ∧ k ≤ manyP z bs ∧ q = .int .i64 (P : Int) ∧ v = .slice A' (bs.drop (k * z)).length c' ∧ (bs.drop (k * z)).length ≤ c' ∧ c' ≤ maxLen ∧ WGoing I w wr a mk mw s i0 bs k A') (fun q _ _ => b + bs.length + z - (intOf q).toNat)
      case atStart => exact ⟨b, 0, A, c, by omega, Nat.zero_le _, rfl, by simp, by simpa using hbc, hcm, ⟨HDD.out, HT1.out, fun j hj => absurd hj (by omega), by rw [Nat.zero_mul]; exact HR.out _ HT1.out⟩⟩
      case round =>
        clear HDD HT1
        obtain ⟨P, k, A', c', hP, hk, rfl, rfl, hc1, hc2, G⟩ := hrel
        have hmany := manyP_iff (show 0 < z by omega) bs k
        have hdl : (bs.drop (k * z)).length = bs.length - k * z := List.length_drop
        have HPk := Lib.hid hP
        have HMy := Lib.hid hmany
        obtain ⟨R, hR⟩ : ∃ R, bs.drop (k * z) = R := ⟨_, rfl⟩
        rw [hR] at hc1 hdl ⊢
        have hHR : Holds wr w.heap.size .u8 A' R := by have := G.r; rwa [HZ.out, hR] at this
        by_cases hlt : 0 < R.length
        · have d0 : decide ((0 : Int) < (R.length : Int)) = true := decide_eq_true (by omega)
          have hkm : k < manyP z bs := hmany.2 (by omega)
          obtain ⟨Q, hQ⟩ : ∃ Q : Nat, P / z = Q := ⟨_, rfl⟩
          have hQk : Q = b / z + k := by rw [← hQ, hP, Nat.add_mul_div_right _ _ (by omega)]
          have hq11 : (P : Int).tdiv (z : Int) = (Q : Int) := by rw [← hQ]; exact (Int.ofNat_tdiv P z).symm
          have hPT : (Q : Int) < C := by
            have h1 : P / z * z ≤ P := Nat.div_mul_le_self _ _
            rw [hQ] at h1
            have h2 : ((Q * z : Nat) : Int) < C * (z : Int) := by omega
            rw [Int.natCast_mul] at h2
            exact Int.lt_of_mul_lt_mul_right h2 (by omega)
          obtain ⟨n, hn⟩ : ∃ n, (R.take z).length = n := ⟨_, rfl⟩
          have hn1 : n = min z R.length := by rw [← hn, List.length_take]
          have hch : R.take z ++ (List.replicate z (0 : Int)).drop R.length = chunkP z bs k := by
            unfold chunkP padB
            rw [hR, List.drop_replicate, hn]
            congr 2
            omega
          have HCH := Lib.hid hch
          have HN := Lib.hid hn
          obtain ⟨n1, n2, n3, n4⟩ := HNear.out k
          have hk6 : k ≤ 1000000 := by
            have : k * 1 ≤ k * z := Nat.mul_le_mul_left k (by omega)
            omega
          have GWR := Lib.hid (fun W gb (hd : DvAt W I a mk mw (wrS s i0 bs k)) (hsz : w.heap.size ≤ W.heap.size) (hh : Holds W W.heap.size .u8 (some ⟨gb, 0, none⟩) (chunkP z bs k)) => (by
            have := write_any I a mk mw (wrS s i0 bs k) (F + (Q : Int)) (some ⟨gb, 0, none⟩) (chunkP z bs k) z W hd (fun g hg => HI.out g (by omega)) (by omega) (by rw [chunkP_length]; omega) (chunkP_octets hbo k) hh (by omega) (by omega)
            have e1 : F + (Q : Int) = i0 + (k : Int) := by have := HI0.out; omega
            have e2 : (wrS s i0 bs k).write (F + (Q : Int)) (chunkP z bs k) = (errS s i0 bs k, wrS s i0 bs (k + 1)) := by
              rw [e1]
              have h := HZ.out
              subst h
              rfl
            rw [chunkP_length, e2] at this
            exact this : Calls Tryd.prog 12 #[.pointer (some ⟨a, 0, none⟩), .int .i64 (F + (Q : Int)), .slice (some ⟨gb, 0, none⟩) z z] W (Sec.Leaves I a mk mw W (wrS s i0 bs (k + 1)) (.int .i64 (errS s i0 bs k)))))
          obtain ⟨E, hEe⟩ : ∃ E, errS s i0 bs k = E := ⟨_, rfl⟩
          rw [hEe] at GWR
          have HEe := Lib.hid hEe
          clear hEe
          have HQk := Lib.hid hQk
          have HN1 := Lib.hid hn1
          clear hQk hn1
          have HG := Lib.hid G
          have hHR2 := hHR
          obtain ⟨gA, oA, rfl, hgA, -⟩ := hHR2 hlt
          have HDL := Lib.hid hdl
          have HRR := Lib.hid hR
          clear hP hmany hR G hdl
          go_wp2_with (first
            | (at_make; refine wpList_make_ints _ rfl _ _ _ rfl elem8 z z rfl rfl rfl rfl (Nat.le_refl _) (by omega) ?_; intro w3 own3 hb3 hz3
               have own3 : Own w3 w.heap.size 5 .u8 (.slice (some ⟨wr.heap.size, 0, none⟩) z z) (List.replicate z 0) := own3.mono HG.out.t.size
               have hwz := HG.out.t.size)
            | (have _t := own3; (refine wpList_copy_some rfl (.tmp 42) (.tmp 43) 22 rfl elem8 own3 rfl rfl (hHR.below (hb3.mono hwz)) (by rw [List.length_replicate]; omega) hlt (by omega) ?_); clear _t; intro w4 own4 g4 hb4
               rw [List.length_replicate, HCH.out] at own4
               rw [List.length_replicate, HN.out]))
          have Bw : Below wr.heap.size wr w4 := hb3.trans (below_of_grown g4 (Nat.le_of_lt hz3) (fun g hg => by simp [Value.ownBlock] at hg; omega))
          have HT4 : Hid (TurnsIn (DSet a mk mw) w w4) := Lib.hid (HG.out.t.trans (.ofNew Bw))
          have HP4 := Lib.hid (HD1.out _ HT4.out)
          have HD4 := Lib.hid ((HG.out.d.below Bw).below (below_draws (Below.refl _ _) 1))
          have hsz4 : w.heap.size ≤ w4.drew.heap.size := HT4.out.size
          have hh4 : Hid (Holds w4.drew w4.drew.heap.size .u8 (some ⟨wr.heap.size, 0, none⟩) (chunkP z bs k)) := Lib.hid (by
            obtain ⟨A9, c9, he9, -, -, hh9⟩ := own4.opened
            injection he9 with e1 e2 e3
            subst e1
            exact hh9)
          have HHR := Lib.hid hHR
          clear own4 own3 g4 hb4 hb3 hz3 hHR
          have hRn : n ≤ R.length ∧ 0 < n ∧ n ≤ z := by have := HN1.out; omega
          clear hlt
          refine wp_region_held_drew (S := (fun W => PartAt W p a F C)) (by kernel_rfl) HP4.out (fun hS => ?_)
          refine wpAnyH_take (i := 0) (oi := ⟨some 45, _, _, _, _, _⟩) (v := .pointer (some ⟨p, 0, none⟩)) rfl (by kernel_rfl) (by kernel_rfl) (by kernel_rfl) (fun _ _ _ h => h) (Or.inl ⟨by rfl, fun W hW => by go_simp⟩) hS ?_
          try simp only [Act.put, List.setIfInBounds_toArray, List.set_cons_zero, List.set_cons_succ]
          refine wpAnyH_take (i := 4) (oi := ⟨some 49, _, _, _, _, _⟩) (v := .pointer (some ⟨p, 0, none⟩)) rfl (by kernel_rfl) (by kernel_rfl) (by kernel_rfl) (fun _ _ _ h => h) (Or.inl ⟨by rfl, fun W hW => by go_simp⟩) hS ?_
          try simp only [Act.put, List.setIfInBounds_toArray, List.set_cons_zero, List.set_cons_succ]
          refine wpAnyH_take (i := 9) (oi := ⟨some 54, _, _, _, _, _⟩) (v := .int .i64 (P : Int)) rfl (by kernel_rfl) (by kernel_rfl) (by kernel_rfl) (fun _ _ _ h => h) (Or.inl ⟨by rfl, fun W hW => by go_simp⟩) hS ?_
          try simp only [Act.put, List.setIfInBounds_toArray, List.set_cons_zero, List.set_cons_succ]
          refine wpAnyH_take (i := 10) (oi := ⟨some 55, _, _, _, _, _⟩) (v := .int .i64 (z : Int)) rfl (by kernel_rfl) (by kernel_rfl) (by kernel_rfl) (fun _ _ _ h => h) (Or.inl ⟨by rfl, fun W hW => by go_simp⟩) hS ?_
          try simp only [Act.put, List.setIfInBounds_toArray, List.set_cons_zero, List.set_cons_succ]
          refine wpAnyH_take (i := 13) (oi := ⟨some 58, _, _, _, _, _⟩) (v := .slice (some ⟨wr.heap.size, 0, none⟩) z z) rfl (by kernel_rfl) (by kernel_rfl) (by kernel_rfl) (fun _ _ _ h => h) (Or.inl ⟨by rfl, fun W hW => by go_simp⟩) hS ?_
          try simp only [Act.put, List.setIfInBounds_toArray, List.set_cons_zero, List.set_cons_succ]
          refine wpAnyH_take (i := 1) (oi := ⟨some 46, _, _, _, _, _⟩) (v := .pointer (some ⟨p, 0, none⟩)) rfl (by kernel_rfl) (by kernel_rfl) (by kernel_rfl) (fun _ _ _ h => h) (Or.inl ⟨by rfl, fun W hW => by go_simp⟩) hS ?_
          try simp only [Act.put, List.setIfInBounds_toArray, List.set_cons_zero, List.set_cons_succ]
          refine wpAnyH_take (i := 5) (oi := ⟨some 50, _, _, _, _, _⟩) (v := .pointer (some ⟨p, 0, none⟩)) rfl (by kernel_rfl) (by kernel_rfl) (by kernel_rfl) (fun _ _ _ h => h) (Or.inl ⟨by rfl, fun W hW => by go_simp⟩) hS ?_
          try simp only [Act.put, List.setIfInBounds_toArray, List.set_cons_zero, List.set_cons_succ]
          refine wpAnyH_take (i := 11) (oi := ⟨some 56, _, _, _, _, _⟩) (v := .int .i64 (Q : Int)) rfl (by kernel_rfl) (by kernel_rfl) (by kernel_rfl) (fun _ _ _ h => h) (Or.inl ⟨by rfl, fun W hW => by go_simp; first | exact IntWalk.i64_in _ (by omega) | (rw [hq11]; exact IntWalk.i64_in _ (by omega))⟩) hS ?_
          try simp only [Act.put, List.setIfInBounds_toArray, List.set_cons_zero, List.set_cons_succ]
          refine wpAnyH_take (i := 2) (oi := ⟨some 47, _, _, _, _, _⟩) (v := .pointer (some ⟨p, 0, none⟩)) rfl (by kernel_rfl) (by kernel_rfl) (by kernel_rfl) (fun _ _ _ h => h) (Or.inl ⟨by rfl, fun W hW => by go_simp⟩) hS ?_
          try simp only [Act.put, List.setIfInBounds_toArray, List.set_cons_zero, List.set_cons_succ]
          refine wpAnyH_take (i := 6) (oi := ⟨some 51, _, _, _, _, _⟩) (v := .pointer (some ⟨p, 1, none⟩)) rfl (by kernel_rfl) (by kernel_rfl) (by kernel_rfl) (fun _ _ _ h => h) (Or.inl ⟨by rfl, fun W hW => by go_simp⟩) hS ?_
          try simp only [Act.put, List.setIfInBounds_toArray, List.set_cons_zero, List.set_cons_succ]
          refine wpAnyH_take (i := 3) (oi := ⟨some 48, _, _, _, _, _⟩) (v := .pointer (some ⟨a, 0, none⟩)) rfl (by kernel_rfl) (by kernel_rfl) (by kernel_rfl) (fun _ _ _ h => h) (Or.inl ⟨by rfl, fun W hW => by have q0 : W.cell? ⟨p, 0, none⟩ = some (.pointer (some ⟨a, 0, none⟩)) := Block.cell hW 0; have q1 : W.cell? ⟨p, 1, none⟩ = some (.int .i64 F) := Block.cell hW 1; go_simp⟩) hS ?_
          try simp only [Act.put, List.setIfInBounds_toArray, List.set_cons_zero, List.set_cons_succ]
          refine wpAnyH_take (i := 7) (oi := ⟨some 52, _, _, _, _, _⟩) (v := .pointer (some ⟨p, 1, none⟩)) rfl (by kernel_rfl) (by kernel_rfl) (by kernel_rfl) (fun _ _ _ h => h) (Or.inl ⟨by rfl, fun W hW => by go_simp⟩) hS ?_
          try simp only [Act.put, List.setIfInBounds_toArray, List.set_cons_zero, List.set_cons_succ]
          refine wpAnyH_take (i := 8) (oi := ⟨some 53, _, _, _, _, _⟩) (v := .int .i64 F) rfl (by kernel_rfl) (by kernel_rfl) (by kernel_rfl) (fun _ _ _ h => h) (Or.inl ⟨by rfl, fun W hW => by have q0 : W.cell? ⟨p, 0, none⟩ = some (.pointer (some ⟨a, 0, none⟩)) := Block.cell hW 0; have q1 : W.cell? ⟨p, 1, none⟩ = some (.int .i64 F) := Block.cell hW 1; go_simp⟩) hS ?_
          try simp only [Act.put, List.setIfInBounds_toArray, List.set_cons_zero, List.set_cons_succ]
          refine wpAnyH_take (i := 12) (oi := ⟨some 57, _, _, _, _, _⟩) (v := .int .i64 (F + (Q : Int))) rfl (by kernel_rfl) (by kernel_rfl) (by kernel_rfl) (fun _ _ _ h => h) (Or.inl ⟨by rfl, fun W hW => by go_simp; exact IntWalk.i64_in _ (by omega)⟩) hS ?_
          try simp only [Act.put, List.setIfInBounds_toArray, List.set_cons_zero, List.set_cons_succ]
          refine wpAnyH_ready (rs := [14]) (by kernel_rfl) (by simp) ?_
          refine AllReadyH.cons rfl (fun K hK => ?_) AllReadyH.nil
          go_simp
          go_at_call 12
          refine (GWR.out w4.drew wr.heap.size HD4.out hsz4 hh4.out).mono ?_
          rintro e x1 ⟨rfl, D5, T5⟩
          have HT5 := (HT4.out.drewN 1).trans T5
          have HP5 := HD1.out _ HT5
          refine hK.out _ _ HP5 (fun hS => ?_)
          clear hK K
          try simp only [Act.put, List.setIfInBounds_toArray, List.set_cons_zero, List.set_cons_succ]
          refine wpAnyH_ready (rs := [15]) (by kernel_rfl) (by simp) ?_
          refine AllReadyH.cons rfl (fun K hK => ?_) AllReadyH.nil
          go_simp
          refine hK.out _ _ HP5 (fun hS => ?_)
          clear hK K
          try simp only [Act.put, List.setIfInBounds_toArray, List.set_cons_zero, List.set_cons_succ]
          refine wpAnyH_done (by kernel_rfl) ?_ _
          have HHR5 : Holds x1 w.heap.size .u8 (some ⟨gA, oA, none⟩) R := HG.out.d.holds ((TurnsIn.ofNew Bw).drewN 1 |>.trans T5) HHR.out HG.out.t.size
          have HD5 := Lib.hid D5
          clear D5 T5 HP5
          have hHT5 := Lib.hid HT5
          clear HT5 HP4 HD4 hh4 hsz4 HHR GWR
          by_cases hE : E = 0
          · subst hE
            have HOK6 : Hid (OkW s i0 bs (k + 1)) := Lib.hid (fun j hj => by
              rcases Nat.lt_or_ge j k with h | h
              · exact HG.out.ok j h
              · obtain rfl : j = k := by omega
                exact HEe.out)
            have HK1 : Hid (k + 1 ≤ manyP z bs) := Lib.hid hkm
            have hnext : Hid ((bs.drop ((k + 1) * z)).length = R.length - n ∧ (n < R.length → bs.drop ((k + 1) * z) = R.drop n)) := Lib.hid (by
              have h1 := HN1.out
              have h2 := HDL.out
              have h3 : (k + 1) * z = k * z + z := by rw [Nat.add_mul, Nat.one_mul]
              refine ⟨by rw [List.length_drop, h3]; omega, fun h => ?_⟩
              have h4 : n = z := by omega
              rw [h3, ← List.drop_drop, HRR.out, h4])
            have hnc : (n : Int) ≤ (R.length : Int) := by omega
            have hR5 : Hid (∀ A'', (n < R.length → A'' = some ⟨gA, oA + n, none⟩) → Holds x1 w.heap.size .u8 A'' (bs.drop ((k + 1) * s.size))) := Lib.hid (fun A'' hA => by
              rw [HZ.out]
              intro hp0
              rw [hnext.out.1] at hp0
              rw [hnext.out.2 (by omega), hA (by omega)]
              have := HHR5.sub n (R.length - n) (by omega)
              rw [List.take_of_length_le (by rw [List.length_drop]; omega)] at this
              exact this (by rw [List.length_drop]; omega))
            clear HHR5
            have hw64 := Lib.hid (IntWalk.wrap64_in ((P : Int) + (z : Int)) (by have := HPk.out; have := HDL.out; omega))
            have HP6 : Hid (P + z = b + (k + 1) * z) := Lib.hid (by have := HPk.out; rw [Nat.add_mul, Nat.one_mul]; omega)
            have HPL : Hid (P < b + bs.length) := Lib.hid (by have := HPk.out; have := HDL.out; omega)
            have HC : Hid (R.length ≤ c' ∧ c' ≤ maxLen) := Lib.hid ⟨hc1, hc2⟩
            by_cases hcn : c' = n
            · have hRn2 : R.length = n := by omega
              go_wp2_with fail
              go_roundw
              case rel => exact ⟨P + z, k + 1, some ⟨gA, oA, none⟩, 0, HP6.out, HK1.out, by first | (rw [hw64.out, Int.natCast_add]; done) | (rw [hw64.out]; rfl), (by rw [hnext.out.1, hRn2, Nat.sub_self]), by rw [hnext.out.1, hRn2, Nat.sub_self]; exact Nat.le_refl _, Nat.zero_le _, HD5.out, hHT5.out, HOK6.out, hR5.out _ (fun h => absurd h (by omega))⟩
              case measure =>
                have h9 := HPL.out
                rw [hw64.out]
                simp only [intOf]
                omega
            · go_wp2_with fail
              go_roundw
              case rel => exact ⟨P + z, k + 1, some ⟨gA, oA + n, none⟩, c' - n, HP6.out, HK1.out, by first | (rw [hw64.out, Int.natCast_add]; done) | (rw [hw64.out]; rfl), by rw [hnext.out.1], by rw [hnext.out.1]; have := HC.out.1; omega, Nat.le_trans (Nat.sub_le _ _) HC.out.2, HD5.out, hHT5.out, HOK6.out, hR5.out _ (fun _ => rfl)⟩
              case measure =>
                have h9 := HPL.out
                rw [hw64.out]
                simp only [intOf]
                omega
          · have d1 : (E != 0) = true := by simpa using hE
            go_wp2_with fail
            go_ret
            exact ⟨(E, wrS s i0 bs (k + 1)), Or.inl ⟨k, by rw [HZ.out]; exact hkm, HG.out.ok, by rw [HEe.out]; exact hE, by rw [HEe.out]⟩, rfl, HD5.out, hHT5.out⟩
        · have hR0 : R.length = 0 := by omega
          have hkm : k = manyP z bs := by
            rcases Nat.lt_or_ge k (manyP z bs) with h | h
            · have := hmany.1 h
              omega
            · omega
          clear hHR hlt hdl hP hmany hR
          go_wp2_with fail
          go_ret
          refine ⟨(0, wrS s i0 bs k), Or.inr ⟨?_, ?_⟩, rfl, G.d, G.t⟩
          · rw [HZ.out, ← hkm]; exact G.ok
          · rw [HZ.out, ← hkm]
    · rw [decide_eq_false hin] at GH
      simp only [if_neg hin]
      have HD := Lib.hid h
      clear h hr hp hI hl
      go_enter Tryd.func54, Tryd.ntmps54
      go_wp2_with (first
        | (go_at_call 57; (with_reducible refine GS.out.mono ?_); rintro e w1 ⟨rfl, rfl⟩)
        | (go_at_call 76; (with_reducible refine GH.out.mono ?_); rintro e w1 ⟨rfl, k1, hk1⟩
           have B1 : Below w.heap.size w w1 := by rw [hk1]; exact below_draws (Below.refl _ _) k1
           clear hk1 GH))
      go_ret
      exact ⟨_, rfl, rfl, HD.out.below B1, .ofNew B1⟩
  · simp only [if_pos hm]
    have b0 : (x.tmod (s.size : Int) != 0) = true := by simpa using hm
    have hsz : ¬ s.size = 0 := by omega
    have HD := Lib.hid h
    clear h hr hp hI hl
    go_enter Tryd.func54, Tryd.ntmps54
    go_wp2_with (go_at_call 57; (with_reducible refine GS.out.mono ?_); rintro e w1 ⟨rfl, rfl⟩)
    go_ret
    exact ⟨_, rfl, rfl, HD.out, TurnsIn.refl _ _⟩
end Go.Proofs.YtpnodocjpedcmaaDoor.Pt

namespace Go.Proofs.YtpnodocjpedcmaaDoor.Pt
open Go.ChangeShapes Go.WideShapes Go.ChangeAt Go.RowKit Go.Proofs.YtpnodocjpedcmaaDoor.Kit Go.Proofs.YtpnodocjpedcmaaDoor.Sec

/-- Is a region there? -/
def IsThere (n : Int) (F C : Int) : Prop := 0 ≤ F ∧ 1 ≤ C ∧ C ≤ n ∧ F ≤ n - C
instance (n F C : Int) : Decidable (IsThere n F C) := by unfold IsThere; infer_instance

set_option maxRecDepth 100000 in
set_option maxHeartbeats 3200000 in
theorem open_any (I : Nat → Prop) (a mk mw : Nat) (F C : Int) (s : Dv) (w : World) (h : DvAt w I a mk mw s) (hF : -9223372036854775808 ≤ F ∧ F ≤ 9223372036854775807) (hC : -9223372036854775808 ≤ C ∧ C ≤ 9223372036854775807) :
    Calls Tryd.prog 48 #[.pointer (some ⟨a, 0, none⟩), .agg #[.int .i64 F, .int .i64 C]] w fun e w' => Below w.heap.size w w' ∧
      (IsThere s.count F C → ∃ p, w.heap.size ≤ p ∧ e = .returned (.tuple #[.pointer (some ⟨p, 0, none⟩), .int .i64 0]) ∧ PartAt w' p a F C) ∧ (¬ IsThere s.count F C → e = .returned (.tuple #[.pointer none, .int .i64 1])) := by
  have B0 : Below w.heap.size w (w.alloc (.cells #[.int .i64 F, .int .i64 C] 42)) := (Below.refl _ _).alloc (Nat.le_refl _) _
  have HD : Hid (∀ n, DvAt ((w.alloc (.cells #[.int .i64 F, .int .i64 C] 42)).drewN n) I a mk mw s) := Lib.hid (fun n => (h.below B0).below (below_draws (Below.refl _ _) n))
  have HB : Hid (∀ n, Below w.heap.size w ((w.alloc (.cells #[.int .i64 F, .int .i64 C] 42)).drewN n)) := Lib.hid (fun n => below_draws B0 n)
  have hc1 := h.ok.c1
  have hc2 := h.ok.c2
  unfold IsThere
  clear h B0
  cases h1 : decide (F < 0) <;> (try cases h2 : decide (C < 1)) <;> (try cases h3 : decide ((s.count : Int) < C)) <;> (try cases h4 : decide ((s.count : Int) - C < F))
  case false.false.false.false =>
    have hyes : Hid (0 ≤ F ∧ 1 ≤ C ∧ C ≤ (s.count : Int) ∧ F ≤ (s.count : Int) - C) := Lib.hid (by simp only [decide_eq_false_iff_not] at h1 h2 h3 h4; omega)
    have k2 : 1 ≤ C := by simp only [decide_eq_false_iff_not] at h2; omega
    have k3 : C ≤ (s.count : Int) := by simp only [decide_eq_false_iff_not] at h3; omega
    go_enter Tryd.func48, Tryd.ntmps48
    go_wp2_with fail
    go_quiet ((go_at_call 58; exact Calls.quiet_of_same ((count_any I a mk mw s _ (HD.out _)).mono fun _ _ h => ⟨h.1, h.2.symm⟩)))
    go_wp2_with fail
    go_ret2
    have hb := HB.out nq
    have hz : ((w.alloc (.cells #[.int .i64 F, .int .i64 C] 42)).drewN nq).heap.size = w.heap.size + 1 := by simp [World.drewN]
    refine ⟨hb.alloc hb.size _, fun _ => ⟨w.heap.size + 1, by omega, rfl, ?_⟩, fun h => absurd hyes.out h⟩
    have := Block.new ((w.alloc (.cells #[.int .i64 F, .int .i64 C] 42)).drewN nq) 139 #[.pointer (some ⟨a, 0, none⟩), .int .i64 F, .int .i64 C]
    rw [hz] at this
    exact this
  case false.false.false.true =>
    have hno : Hid (¬ (0 ≤ F ∧ 1 ≤ C ∧ C ≤ (s.count : Int) ∧ F ≤ (s.count : Int) - C)) := Lib.hid (by simp only [decide_eq_false_iff_not, decide_eq_true_eq] at *; omega)
    have k2 : 1 ≤ C := by simp only [decide_eq_false_iff_not] at h2; omega
    have k3 : C ≤ (s.count : Int) := by simp only [decide_eq_false_iff_not] at h3; omega
    go_enter Tryd.func48, Tryd.ntmps48
    go_wp2_with fail
    go_quiet ((go_at_call 58; exact Calls.quiet_of_same ((count_any I a mk mw s _ (HD.out _)).mono fun _ _ h => ⟨h.1, h.2.symm⟩)))
    go_wp2_with fail
    go_ret2
    exact ⟨HB.out nq, fun h => absurd h hno.out, fun _ => rfl⟩
  all_goals
    have hno : Hid (¬ (0 ≤ F ∧ 1 ≤ C ∧ C ≤ (s.count : Int) ∧ F ≤ (s.count : Int) - C)) := Lib.hid (by simp only [decide_eq_false_iff_not, decide_eq_true_eq] at *; omega)
    go_enter Tryd.func48, Tryd.ntmps48
    go_wp2_with fail
    go_quiet ((go_at_call 58; exact Calls.quiet_of_same ((count_any I a mk mw s _ (HD.out _)).mono fun _ _ h => ⟨h.1, h.2.symm⟩)))
    go_wp2_with fail
    go_ret2
    exact ⟨HB.out nq, fun h => absurd h hno.out, fun _ => rfl⟩
end Go.Proofs.YtpnodocjpedcmaaDoor.Pt

namespace Go.Proofs.YtpnodocjpedcmaaDoor.Pt
open Go.ChangeShapes Go.WideShapes Go.ChangeAt Go.RowKit Go.Proofs.YtpnodocjpedcmaaDoor.Kit Go.Proofs.YtpnodocjpedcmaaDoor.Sec

/-- A sector's part of a text. -/
theorem chunk_cut (bs : List Int) (z k : Nat) : (strOfNums bs).extract (k * z) (min bs.length ((k + 1) * z)) = strOfNums ((bs.drop (k * z)).take z) := by
  rw [str_cut]
  congr 1
  have h : (k + 1) * z = k * z + z := by rw [Nat.add_mul, Nat.one_mul]
  rw [h]
  by_cases hl : bs.length ≤ k * z + z
  · rw [Nat.min_eq_left hl, List.take_of_length_le (by rw [List.length_drop]; exact Nat.le_refl _), List.take_of_length_le (by rw [List.length_drop]; omega)]
  · rw [Nat.min_eq_right (by omega), Nat.add_sub_cancel_left]
/-- It is filled up with zeros. -/
theorem chunk_fill (bs : List Int) (z k : Nat) : strOfNums ((bs.drop (k * z)).take z) ++ strOfNums (List.replicate (z - ((bs.drop (k * z)).take z).length) 0) = strOfNums (chunkP z bs k) := by
  rw [str_join]
  rfl
/-- A range's piece of a sector: from lo to hi of the region, the sector beginning at i * z. -/
theorem piece_cut {s : Dv} {F : Int} {p m : Nat} {xs : List Int} (hx : xs.length = s.size) (h : secP s F p = (xs, 0)) (hm : m ≤ s.size - p % s.size) : (strOfNums xs).extract (p % s.size) (p % s.size + m) = strOfNums (rowP s F p m) := by
  rw [str_cut, Nat.add_sub_cancel_left, piece hx h hm]
theorem row_join (s : Dv) (F : Int) (a k m : Nat) : strOfNums (rowP s F a k) ++ strOfNums (rowP s F (a + k) m) = strOfNums (rowP s F a (k + m)) := by
  rw [str_join, rowP_add]
end Go.Proofs.YtpnodocjpedcmaaDoor.Pt

namespace Go.Proofs.YtpnodocjpedcmaaDoor.Pt
open Go.ChangeShapes Go.WideShapes Go.ChangeAt Go.RowKit Go.Proofs.YtpnodocjpedcmaaDoor.Kit Go.Proofs.YtpnodocjpedcmaaDoor.Sec

end Go.Proofs.YtpnodocjpedcmaaDoor.Pt

namespace Go.Proofs.YtpnodocjpedcmaaDoor.Sha
open Go.ChangeShapes Go.WideShapes Go.ChangeAt Go.RowKit Go.Proofs.YtpnodocjpedcmaaDoor.Kit

/-- Block g is a hash that has taken these bytes. -/
structure HashIs (w : World) (g : Nat) (xs : List Int) : Prop where
  ex : ∃ rest, HB w g (stateL xs) rest xs.length ∧ rest.length = 64 ∧ rest.take (xs.length % 64) = xs.drop (64 * (xs.length / 64))

theorem HashIs.lt {w : World} {g : Nat} {xs : List Int} (h : HashIs w g xs) : g < w.heap.size := by
  obtain ⟨r, h1, _⟩ := h.ex
  exact h1.lt
theorem HashIs.out {w w' : World} {g : Nat} {xs : List Int} {S : Nat → Prop} (h : HashIs w g xs) (ho : TurnsIn S w w') (hg : ¬ S g) : HashIs w' g xs := by
  obtain ⟨r, h1, h2, h3⟩ := h.ex
  exact ⟨r, h1.out ho hg, h2, h3⟩
theorem HashIs.below {w w' : World} {g B : Nat} {xs : List Int} (h : HashIs w g xs) (hb : Below B w w') (hg : g < B) : HashIs w' g xs := by
  obtain ⟨r, h1, h2, h3⟩ := h.ex
  exact ⟨r, h1.below hb hg, h2, h3⟩

theorem zero_hash (W : World) : (zeroValue 154).run Tryd.prog W = .ok (.agg #[.int .u32 0, .int .u32 0, .int .u32 0, .int .u32 0, .int .u32 0, .int .u32 0, .int .u32 0, .int .u32 0, .int .u8 0, .int .u8 0, .int .u8 0, .int .u8 0, .int .u8 0, .int .u8 0, .int .u8 0, .int .u8 0, .int .u8 0, .int .u8 0, .int .u8 0, .int .u8 0, .int .u8 0, .int .u8 0, .int .u8 0, .int .u8 0, .int .u8 0, .int .u8 0, .int .u8 0, .int .u8 0, .int .u8 0, .int .u8 0, .int .u8 0, .int .u8 0, .int .u8 0, .int .u8 0, .int .u8 0, .int .u8 0, .int .u8 0, .int .u8 0, .int .u8 0, .int .u8 0, .int .u8 0, .int .u8 0, .int .u8 0, .int .u8 0, .int .u8 0, .int .u8 0, .int .u8 0, .int .u8 0, .int .u8 0, .int .u8 0, .int .u8 0, .int .u8 0, .int .u8 0, .int .u8 0, .int .u8 0, .int .u8 0, .int .u8 0, .int .u8 0, .int .u8 0, .int .u8 0, .int .u8 0, .int .u8 0, .int .u8 0, .int .u8 0, .int .u8 0, .int .u8 0, .int .u8 0, .int .u8 0, .int .u8 0, .int .u8 0, .int .u8 0, .int .u8 0, .int .u64 0]) W := by kernel_rfl

theorem zero_block (W : World) : HB (W.alloc (.cells #[.int .u32 0, .int .u32 0, .int .u32 0, .int .u32 0, .int .u32 0, .int .u32 0, .int .u32 0, .int .u32 0, .int .u8 0, .int .u8 0, .int .u8 0, .int .u8 0, .int .u8 0, .int .u8 0, .int .u8 0, .int .u8 0, .int .u8 0, .int .u8 0, .int .u8 0, .int .u8 0, .int .u8 0, .int .u8 0, .int .u8 0, .int .u8 0, .int .u8 0, .int .u8 0, .int .u8 0, .int .u8 0, .int .u8 0, .int .u8 0, .int .u8 0, .int .u8 0, .int .u8 0, .int .u8 0, .int .u8 0, .int .u8 0, .int .u8 0, .int .u8 0, .int .u8 0, .int .u8 0, .int .u8 0, .int .u8 0, .int .u8 0, .int .u8 0, .int .u8 0, .int .u8 0, .int .u8 0, .int .u8 0, .int .u8 0, .int .u8 0, .int .u8 0, .int .u8 0, .int .u8 0, .int .u8 0, .int .u8 0, .int .u8 0, .int .u8 0, .int .u8 0, .int .u8 0, .int .u8 0, .int .u8 0, .int .u8 0, .int .u8 0, .int .u8 0, .int .u8 0, .int .u8 0, .int .u8 0, .int .u8 0, .int .u8 0, .int .u8 0, .int .u8 0, .int .u8 0, .int .u64 0] 154)) W.heap.size (List.replicate 8 0) (List.replicate 64 0) 0 := Block.new W _ _

set_option maxRecDepth 100000 in
set_option maxHeartbeats 1600000 in
theorem new_any (w : World) :
    Calls Tryd.prog 65 #[] w fun e w' => e = .returned (.pointer (some ⟨w.heap.size, 0, none⟩)) ∧ HashIs w' w.heap.size [] ∧ Below w.heap.size w w' := by
  have hz := zero_hash
  go_enter Tryd.func65, Tryd.ntmps65
  go_wp2_with fail
  go_ret
  exact ⟨rfl, ⟨List.replicate 64 0, Block.new w _ _, rfl, rfl⟩, (Below.refl _ _).alloc (Nat.le_refl _) _⟩

end Go.Proofs.YtpnodocjpedcmaaDoor.Sha
