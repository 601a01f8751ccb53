/-
  Layer 6, sector: Back: contract. Conditions: as each theorem names.
  Layer 6, sector: nil devices, what may not be made, the bytes of a step: contracts. Conditions: as each theorem names.
  Layer 6, sector: the bytes of a step: contract. Conditions: as each theorem names.
  Layer 6, sector: a device through a row of calls; the document's example. Conditions: as each theorem names.
  Layer 7, part: what is read of a region, plain. Conditions: as each theorem names.
  Layer 7, part: what is written into a region, plain. Conditions: as each theorem names.
  Layer 7, part: Open, Size, has: contracts. Conditions: as each theorem names.
  Layer 7, part: Read: contract. Conditions: as each theorem names.
  Layer 7, part: Write: contract. Conditions: as each theorem names.
  Layer 7, part: Open, the document's On: contracts. Conditions: as each theorem names.
  Own words: whole arrays of integers stored and loaded, as steps of a region that draws its order. No program. No conditions beyond what each theorem names.
  Own words: rows of bytes that a call lays itself in a new block. No program. No conditions beyond what each theorem names.
  Own words: rows that stay where something new is laid and filled; a row's first numbers; rows that grow in a world that only adds. No program. No conditions beyond what each theorem names.
  Layer 7, the document's Write, plain: the texts that it cuts and fills up. Conditions: as each theorem names.
  Layer 7, the document's On: contract. Conditions: as each theorem names.
  Layer 1, sha: the words of a block, the rounds, the state behind bytes: plain words. No program. No conditions beyond what each theorem names.
  Layer 1, sha: the words of a block: contract. Conditions: as each theorem names.
  Layer 1, sha: a block mixed into a state: contract. Conditions: as each theorem names.
  Layer 1, sha: the state behind bytes, the sum: plain words; what a hash's block has. No program but its types. No conditions beyond what each theorem names.
  Layer 1, sha: a hash: new, its length, a copy: contracts. Conditions: as each theorem names.
  Layer 1, sha: bytes taken: contract. Conditions: as each theorem names.
  Layer 1, sha: the sum of what was taken: contract. Conditions: as each theorem names.
  Layer 1, sha: the document's: roots, what is padded: contracts. Conditions: as each theorem names.
  Layer 24, journal: records in memory; whether a record may be: contracts. Conditions: as each theorem names.
  Own words for rows of values of one cell each (slices, strings) that a call makes itself: append, and rows of bytes among them. No program. No conditions beyond what each theorem names.
  Layer 24, journal: a record that comes in. Conditions: as each theorem names.
-/
import Derived.Test.YtpnodocjpedcmaaDoorMSeJ
import Derived.Test.YtpnodocjpedcmaaDoorMGIays2
import Derived.RegionTactic
import Derived.BigQuiet
import Derived.Deep.RegionHeld
import Derived.IntWalk
import Derived.Laws.CopyOwn
import Derived.Test.YtpnodocjpedcmaaDoorMArr
import Derived.Test.YtpnodocjpedcmaaDoorMGIays0
import Derived.StillTailTactics
import Derived.Outline
import Derived.Deep.DeepCutAuto
import Derived.Deep.QuietTactic
import Derived.Deep.RegionWith
import Derived.Test.YtpnodocjpedcmaaDoorRows
namespace Go.Proofs.YtpnodocjpedcmaaDoor.Sec
open Go.ChangeShapes Go.WideShapes Go.ChangeAt Go.RowKit Go.Proofs.YtpnodocjpedcmaaDoor.Kit Go.Maps Go.Proofs.YtpnodocjpedcmaaDoor.Sk

theorem backK_down (s : Dv) (picks : List Int) (n : Nat) : backK s.down picks n = backK s picks n := by
  unfold backK
  rw [s.down_waits, s.down_kept]
theorem back_form (s : Dv) (picks : List Int) : s.back picks = { s.down with kept := backK s.down picks s.down.waits.length, waits := [], fuse := -1, off := false } := by
  unfold Dv.back
  rw [backK_down, s.down_waits]

/-- It is back: nothing waits, no fuse, it is on. -/
theorem DvAt.returns {w : World} {I : Nat → Prop} {a mk mw : Nat} {s : Dv} (h : DvAt w I a mk mw s) :
    w.cell? ⟨a, 3, none⟩ = some (.map (some mw)) ∧ ∃ w1, (∀ ty, (Builtin.clear_ #[89] ty #[.map (some mw)]).run Tryd.prog w = .ok (.tuple #[]) w1) ∧
      (w1.cell? ⟨a, 6, none⟩ = some (.int .i64 s.fuse) ∧ w1.frozen? ⟨a, 6, none⟩ = false ∧ w1.cell? ⟨a, 4, none⟩ = some (.bool s.off) ∧ w1.frozen? ⟨a, 4, none⟩ = false) ∧
      DvAt ((w1.setCell ⟨a, 6, none⟩ (.int .i64 (-1))).setCell ⟨a, 4, none⟩ (.bool false)) I a mk mw { s with waits := [], fuse := -1, off := false } ∧
      TurnsIn (DSet a mk mw) w ((w1.setCell ⟨a, 6, none⟩ (.int .i64 (-1))).setCell ⟨a, 4, none⟩ (.bool false)) := by
  obtain ⟨w1, hrun, hm', ht⟩ := h.wt.clear Tryd.underlying89
  have t : TurnsIn (fun b => b = mw) w w1 := TurnsIn.ofGrown (row := some mw) ht.grown fun b hb => (Option.some.inj hb).symm
  have hS : ∀ b, b = mw → I b → ∀ cs f, w.heap[b]? ≠ some (.cells cs 5 f) := fun b hb _ => h.no_row b (Or.inr (Or.inr hb))
  have hh := h.ok
  have D1 : DvAt w1 I a mk mw { s with waits := [] } := ⟨h.blk.out t h.ne_w, h.k.out t h.ne hS, hm', h.ne, ⟨hh.s1, hh.s2, hh.c1, hh.c2, hh.ku, up_nil, hh.kr, fun _ h => (List.not_mem_nil h).elim, fun _ h => (List.not_mem_nil h).elim, hh.f1, hh.f2, hh.o1, hh.w1⟩⟩
  have h1 := D1.ok
  obtain ⟨D2, T2⟩ := D1.field 6 (.int .i64 (-1)) { s with waits := [], fuse := -1 } rfl rfl rfl rfl ⟨h1.s1, h1.s2, h1.c1, h1.c2, h1.ku, h1.wu, h1.kr, h1.wr_, h1.wn, Int.le_refl _, by show (-1 : Int) ≤ _; omega, h1.o1, h1.w1⟩
  have h2 := D2.ok
  obtain ⟨D3, T3⟩ := D2.field 4 (.bool false) { s with waits := [], fuse := -1, off := false } rfl rfl rfl rfl ⟨h2.s1, h2.s2, h2.c1, h2.c2, h2.ku, h2.wu, h2.kr, h2.wr_, h2.wn, h2.f1, h2.f2, h2.o1, h2.w1⟩
  exact ⟨h.blk.cell 3, w1, hrun, ⟨D1.blk.cell 6, D1.free 6, D1.blk.cell 4, D1.free 4⟩, D3, (t.mono fun b _ e => Or.inr (Or.inr e)).trans (T2.trans T3)⟩

/-- A round of Back. -/
structure BGoing (w0 w : World) (I : Nat → Prop) (a mk mw : Nat) (s : Dv) (v : Value) (B : Nat) (A : Option Addr) (xs : List Int) (kc : Sl) : Prop where
  d : DvAt w I a mk mw (s.with_ kc)
  t : TurnsIn (DSet a mk mw) w0 w
  own : Own w B 3 .i64 v (s.waits.map (·.1))
  p : Holds w w.heap.size .u8 A xs
theorem BGoing.drew {w0 w : World} {I : Nat → Prop} {a mk mw : Nat} {s : Dv} {v : Value} {B : Nat} {A : Option Addr} {xs : List Int} {kc : Sl} (h : BGoing w0 w I a mk mw s v B A xs kc) : BGoing w0 w.drew I a mk mw s v B A xs kc :=
  ⟨h.d.below (below_draws (Below.refl _ _) 1), h.t.drewN 1, h.own.drewN 1, h.p⟩
theorem BGoing.keep {w0 w w' : World} {I : Nat → Prop} {a mk mw : Nat} {s : Dv} {v : Value} {B : Nat} {A : Option Addr} {xs : List Int} {kc l : Sl} (h : BGoing w0 w I a mk mw s v B A xs kc) (hm : MapAt w' I RK mk s.size l) (hu : Up l) (hr : ∀ p ∈ l, 0 ≤ p.1 ∧ p.1 < s.count) (t : w.mapTurned w' mk) : BGoing w0 w' I a mk mw s v B A xs l := by
  obtain ⟨D, T⟩ := h.d.keep hm hu hr t
  exact ⟨D, h.t.trans T, h.d.own T h.own (by decide), (h.d.holds T h.p (Nat.le_refl _)).more T.size⟩

set_option maxRecDepth 100000 in
set_option maxHeartbeats 6400000 in
theorem back_any (I : Nat → Prop) (a mk mw : Nat) (s : Dv) (A : Option Addr) (xs : List Int) (c : Nat) (w : World) (h : DvAt w I a mk mw s) (hI : ∀ g, w.heap.size ≤ g → I g) (hx : xs.length ≤ 1000000000) (ho : Octets xs) (hr : Holds w w.heap.size .u8 A xs) (hof : s.offs ≤ 1000000000) :
    Calls Tryd.prog 14 #[.pointer (some ⟨a, 0, none⟩), .slice A xs.length c] w (Leaves I a mk mw w (s.back xs) (.tuple #[])) := by
  have GO := Lib.hid (off_any I a mk mw s w h hof)
  rw [back_form]
  have hold := Lib.hid (fun w1 (t : TurnsIn (DSet a mk mw) w w1) => (h.holds t hr (Nat.le_refl _)).more t.size)
  generalize s.down = s1 at *
  clear h hr hof
  go_enter Tryd.func14, Tryd.ntmps14
  go_wp2_with (first
    | (go_at_call 20; (with_reducible refine GO.out.mono ?_); rintro e w1 ⟨rfl, hd, ht⟩; have q3 := hd.reads.2.2.2.1; have HOK := Lib.hid hd.ok; have GS := Lib.hid (sorted_map hd.wt hd.ok.wu (waits_few hd.ok)))
    | (go_at_call 47; (with_reducible refine (keys_any _ _).mono ?_); rintro e w2 ⟨rfl, rfl⟩)
    | (go_at_call 46; (with_reducible refine GS.out.mono ?_); rintro e w3 ⟨v, rfl, own, hb3⟩; obtain ⟨A3, c3, he3, -⟩ := own.opened; rw [List.length_map] at he3; subst he3; have hgo : BGoing w w3 I a mk mw s1 (.slice A3 s1.waits.length c3) w1.heap.size A xs (backK s1 xs 0) := ⟨hd.below hb3, ht.trans (.ofNew hb3), own, (((hold.out _ ht).below hb3)).more hb3.size⟩; clear own hb3 hd ht q3))
  clear GO GS hold
  generalize w1.heap.size = B1 at *
  have hwf := waits_few HOK.out
  have HBK := Lib.hid (fun k hk => backK_ok HOK.out xs k hk)
  have HBN := Lib.hid (fun k => backK_next s1 xs k)
  have HW := Lib.hid HOK.out.wr_
  have HWN := Lib.hid HOK.out.wn
  have HKF := Lib.hid (fun (l : Sl) (hu : Up l) (hr : ∀ p ∈ l, 0 ≤ p.1 ∧ p.1 < s1.count) => (by have := up_length l 0 hu hr; have := HOK.out.c2; omega : l.length < 1000000000))
  have HC2 := HOK.out.c2
  go_loopw [18] (fun i wz => ∃ k : Nat, k ≤ s1.waits.length ∧ i = .int .i64 k ∧ BGoing w wz I a mk mw s1 (.slice A3 s1.waits.length c3) B1 A xs (backK s1 xs k)) (fun i _ => s1.waits.length - (intOf i).toNat)
  case atStart => exact ⟨0, Nat.zero_le _, rfl, hgo⟩
  case round =>
    clear hgo
    obtain ⟨k, hk, rfl, hgo⟩ := hrel
    by_cases hlt : k < s1.waits.length
    · have hks : (s1.waits.map (·.1)).length = s1.waits.length := List.length_map _
      obtain ⟨g, cap, he, hg1, hg2, _⟩ := hgo.own.form (by omega)
      rw [hks] at he
      injection he with he1 he2 he3
      subst he1 he3
      have hcell := hgo.own.cellAt (i := k) hks.symm (by omega)
      have hp : s1.waits[k]? = some (s1.waits.getD k (0, none)) := by simp [List.getD, List.getElem?_eq_getElem hlt]
      have hgk : (s1.waits.map (·.1)).getD k 0 = (s1.waits.getD k (0, none)).1 := by simp [List.getD, List.getElem?_eq_getElem hlt]
      have hgk' : (s1.waits.map (·.1))[k]?.getD 0 = (s1.waits.getD k (0, none)).1 := by rw [← hgk]; rfl
      have hmem : s1.waits.getD k (0, none) ∈ s1.waits := List.mem_of_getElem? hp
      obtain ⟨hx1, hx2⟩ := HW.out _ hmem
      have hsome := getS_some HOK.out.wu hmem
      have hnn := HWN.out _ hmem
      have hnext := HBN.out k
      obtain ⟨hup, hrg⟩ := HBK.out k (by omega)
      obtain ⟨hup1, hrg1⟩ := HBK.out (k + 1) hlt
      generalize s1.waits.getD k (0, none) = q at *
      obtain ⟨x, o⟩ := q
      cases o with
      | none => exact absurd rfl hnn
      | some ys =>
      rw [hgk'] at hcell
      simp only at hx1 hx2 hsome
      have hxb : -9223372036854775808 ≤ x ∧ x ≤ 9223372036854775807 := by omega
      have d1 : decide ((k : Int) < (s1.waits.length : Int)) = true := decide_eq_true (by omega)
      have d2 : decide (k < s1.waits.length) = true := decide_eq_true hlt
      generalize hkn : backK s1 xs (k + 1) = kn at *
      generalize hkc : backK s1 xs k = kc at *
      have HKN : Hid (backK s1 xs (k + 1) = kn) := Lib.hid hkn
      obtain ⟨y0, y1, y2, y3, y4, y5, y6, y7⟩ := hgo.d.reads
      clear hkn hkc hgk hp hmem hnn he2 hks
      unfold backStep at hnext
      by_cases hpl : k < xs.length
      · obtain ⟨bp, op, rfl, _, hcp⟩ := hgo.p (by omega)
        have hpick := hcp k hpl
        clear hcp
        generalize xs.getD k 0 = pk at *
        have d3 : decide ((k : Int) < (xs.length : Int)) = true := decide_eq_true (by omega)
        have d4 : decide (k < xs.length) = true := decide_eq_true hpl
        by_cases hp1 : pk = 1
        · rw [if_pos hp1] at hnext
          have b1 : (pk == 1) = true := by simpa using hp1
          have D := hgo.drew
          have Dk : MapAt wr.drew I RK mk s1.size kc := D.d.k
          have Dw : MapAt wr.drew I RW mw s1.size s1.waits := D.d.wt
          obtain ⟨g1, m1, hlk, hl1, ho1, hI1, own1⟩ := Dw.look_yes x hxb ys hsome false
          simp only [Bool.false_eq_true, if_false] at hlk
          obtain ⟨w6, hst, hm6, ht6⟩ := Dk.store Tryd.underlying88 hup (HKF.out kc hup hrg) x hxb _ (some ys) (GoodV.kept hI1 hl1 ho1 own1)
          have hnx := D.keep hm6 (by rw [← hnext]; exact hup1) (by rw [← hnext]; exact hrg1) ht6
          rw [← hnext, ← HKN.out] at hnx
          have HNX := Lib.hid hnx
          clear hnx hm6 ht6 own1 hl1 ho1 hI1 Dk Dw D hgo hnext hsome hup hrg hup1 hrg1 hp1 HKN
          go_wp2_with fail
          go_region
          all_goals
            go_wp2_with fail
            go_roundw
            case rel => exact ⟨k + 1, hlt, by go_num, HNX.out⟩
            case measure => simp [intOf] <;> omega
        · rw [if_neg hp1] at hnext
          have b1 : (pk == 1) = false := by simpa using hp1
          by_cases hp2 : pk = 2
          · rw [if_pos hp2] at hnext
            have b2 : (pk == 2) = true := by simpa using hp2
            have Dk : MapAt wr I RK mk s1.size kc := hgo.d.k
            obtain ⟨w6, hst, hm6, ht6⟩ := Dk.store Tryd.underlying88 hup (HKF.out kc hup hrg) x hxb _ none GoodV.torn
            have hnx := hgo.keep hm6 (by rw [← hnext]; exact hup1) (by rw [← hnext]; exact hrg1) ht6
            rw [← hnext, ← HKN.out] at hnx
            have HNX := Lib.hid hnx
            clear hnx hm6 ht6 Dk hgo hnext hsome hup hrg hup1 hrg1 hp1 hp2 HKN
            go_wp2_with fail
            go_roundw
            case rel => exact ⟨k + 1, hlt, by go_num, HNX.out⟩
            case measure => simp [intOf] <;> omega
          · rw [if_neg hp2] at hnext
            have b2 : (pk == 2) = false := by simpa using hp2
            rw [← hnext, ← HKN.out] at hgo
            have HNX := Lib.hid hgo
            clear hgo hnext hsome hup hrg hup1 hrg1 hp1 hp2 HKN
            go_wp2_with fail
            go_roundw
            case rel => exact ⟨k + 1, hlt, by go_num, HNX.out⟩
            case measure => simp [intOf] <;> omega
      · have hp0 : xs.getD k 0 = 0 := by simp [List.getD, List.getElem?_eq_none (by omega : xs.length ≤ k)]
        rw [hp0, if_neg (by decide), if_neg (by decide)] at hnext
        have d3 : decide ((k : Int) < (xs.length : Int)) = false := decide_eq_false (by omega)
        have d4 : decide (k < xs.length) = false := decide_eq_false hpl
        rw [← hnext, ← HKN.out] at hgo
        have HNX := Lib.hid hgo
        clear hgo hnext hsome hup hrg hup1 hrg1 HKN hp0
        go_wp2_with fail
        go_roundw
        case rel => exact ⟨k + 1, hlt, by go_num, HNX.out⟩
        case measure => simp [intOf] <;> omega
    · obtain rfl : k = s1.waits.length := by omega
      have d1 : decide ((s1.waits.length : Int) < (s1.waits.length : Int)) = false := decide_eq_false (by omega)
      have d2 : decide (s1.waits.length < s1.waits.length) = false := decide_eq_false (by omega)
      obtain ⟨q3, w5, hclr, ⟨z1, z2, z3, z4⟩, hD, hT⟩ := hgo.d.returns
      have HD := Lib.hid hD
      have HT := Lib.hid (hgo.t.trans hT)
      clear hgo hD hT
      go_wp2_with fail
      exact bodyPost_end (results_none rfl _ _ _) rfl ⟨rfl, HD.out, HT.out⟩
end Go.Proofs.YtpnodocjpedcmaaDoor.Sec

namespace Go.Proofs.YtpnodocjpedcmaaDoor.Sec
open Go.ChangeShapes Go.WideShapes Go.ChangeAt Go.RowKit Go.Proofs.YtpnodocjpedcmaaDoor.Kit Go.Maps

/-- The world stays. -/
def Tells (v : Value) (w : World) (e : Ending) (w' : World) : Prop := e = .returned v ∧ w = w'

theorem size_nil (w : World) : Calls Tryd.prog 57 #[.pointer none] w (Tells (.int .i64 0) w) := by
  go_enter Tryd.func57, Tryd.ntmps57
  go_wp2
  go_ret
  exact ⟨rfl, rfl⟩
theorem count_nil (w : World) : Calls Tryd.prog 58 #[.pointer none] w (Tells (.int .i64 0) w) := by
  go_enter Tryd.func58, Tryd.ntmps58
  go_wp2
  go_ret
  exact ⟨rfl, rfl⟩
theorem waits_nil (w : World) : Calls Tryd.prog 31 #[.pointer none] w (Tells (.int .i64 0) w) := by
  go_enter Tryd.func31, Tryd.ntmps31
  go_wp2
  go_ret
  exact ⟨rfl, rfl⟩
theorem writes_nil (w : World) : Calls Tryd.prog 32 #[.pointer none] w (Tells (.int .u64 0) w) := by
  go_enter Tryd.func32, Tryd.ntmps32
  go_wp2
  go_ret
  exact ⟨rfl, rfl⟩
theorem isOn_nil (w : World) : Calls Tryd.prog 41 #[.pointer none] w (Tells (.bool false) w) := by
  go_enter Tryd.func41, Tryd.ntmps41
  go_wp2
  go_ret
  exact ⟨rfl, rfl⟩
theorem fuse_nil (n : Int) (w : World) : Calls Tryd.prog 23 #[.pointer none, .int .i64 n] w (Tells (.tuple #[]) w) := by
  go_enter Tryd.func23, Tryd.ntmps23
  go_wp2
  exact bodyPost_end (results_none rfl _ _ _) rfl ⟨rfl, rfl⟩
theorem off_nil (w : World) : Calls Tryd.prog 20 #[.pointer none] w (Tells (.tuple #[]) w) := by
  go_enter Tryd.func20, Tryd.ntmps20
  go_wp2_with (go_at_call 41; refine (isOn_nil _).mono ?_; rintro e w1 ⟨rfl, rfl⟩)
  exact bodyPost_end (results_none rfl _ _ _) rfl ⟨rfl, rfl⟩
theorem back_nil (v : Value) (w : World) : Calls Tryd.prog 14 #[.pointer none, v] w (Tells (.tuple #[]) w) := by
  go_enter Tryd.func14, Tryd.ntmps14
  go_wp2
  exact bodyPost_ret (results_none rfl _ _ _) rfl ⟨rfl, rfl⟩
theorem read_nil (n : Int) (w : World) : Calls Tryd.prog 77 #[.pointer none, .int .i64 n] w (Tells (.tuple #[.slice none 0 0, .int .i64 8]) w) := by
  go_enter Tryd.func77, Tryd.ntmps77
  go_wp2_with (go_at_call 41; refine (isOn_nil _).mono ?_; rintro e w1 ⟨rfl, rfl⟩)
  go_ret2
  exact ⟨rfl, rfl⟩
theorem write_nil (n : Int) (v : Value) (w : World) : Calls Tryd.prog 12 #[.pointer none, .int .i64 n, v] w (Tells (.int .i64 8) w) := by
  go_enter Tryd.func12, Tryd.ntmps12
  go_wp2_with (go_at_call 41; refine (isOn_nil _).mono ?_; rintro e w1 ⟨rfl, rfl⟩)
  go_ret
  exact ⟨rfl, rfl⟩
theorem sync_nil (w : World) : Calls Tryd.prog 53 #[.pointer none] w (Tells (.int .i64 8) w) := by
  go_enter Tryd.func53, Tryd.ntmps53
  go_wp2_with (go_at_call 41; refine (isOn_nil _).mono ?_; rintro e w1 ⟨rfl, rfl⟩)
  go_ret
  exact ⟨rfl, rfl⟩

theorem new_arg (n m : Int) (w : World) (h : n < 128 ∨ 4096 < n ∨ m < 1 ∨ 1048576 < m) : Calls Tryd.prog 10 #[.int .i64 n, .int .i64 m] w (Tells (.tuple #[.pointer none, .int .i64 1]) w) := by
  cases h1 : decide (n < 128) <;> (try cases h2 : decide ((4096 : Int) < n)) <;> (try cases h3 : decide (m < 1)) <;> (try cases h4 : decide ((1048576 : Int) < m))
  case false.false.false.false =>
    simp only [decide_eq_false_iff_not] at h1 h2 h3 h4
    omega
  all_goals
    go_enter Tryd.func10, Tryd.ntmps10
    go_wp2
    go_ret2
    exact ⟨rfl, rfl⟩
end Go.Proofs.YtpnodocjpedcmaaDoor.Sec

namespace Go.Proofs.YtpnodocjpedcmaaDoor.Sec
open Go.ChangeShapes Go.WideShapes Go.ChangeAt Go.RowKit Go.Proofs.YtpnodocjpedcmaaDoor.Kit Go.Maps

/-- The bytes of a step. -/
def stepB (n : Nat) (b : Int) (long : Bool) : List Int := List.replicate n b ++ if long = true then [b] else []

end Go.Proofs.YtpnodocjpedcmaaDoor.Sec

namespace Go.Proofs.YtpnodocjpedcmaaDoor.Sec
open Go.ChangeShapes Go.WideShapes Go.ChangeAt Go.RowKit Go.Proofs.YtpnodocjpedcmaaDoor.Kit Go.Maps

/-- A device of the call's own, some steps on. -/
structure Dev (w0 w : World) (a mk mw : Nat) (s : Dv) : Prop where
  d : DvAt w (fun _ => True) a mk mw s
  b : Below w0.heap.size w0 w
  ga : w0.heap.size ≤ a
  gk : w0.heap.size ≤ mk
  gw : w0.heap.size ≤ mw

section
variable {w0 w w' : World} {a mk mw : Nat} {s s' : Dv}
theorem Dev.below (h : Dev w0 w a mk mw s) (hb : Below w.heap.size w w') : Dev w0 w' a mk mw s :=
  ⟨h.d.below hb, h.b.trans (hb.mono h.b.size), h.ga, h.gk, h.gw⟩
theorem Dev.turn (h : Dev w0 w a mk mw s) {I : Nat → Prop} (hd : DvAt w' I a mk mw s') (t : TurnsIn (DSet a mk mw) w w') : Dev w0 w' a mk mw s' :=
  ⟨hd.mono fun _ _ _ => trivial, h.b.trans (t.toBelow h.b.size fun b hb hs => by
    have h1 := h.ga
    have h2 := h.gk
    have h3 := h.gw
    rcases hs with rfl | rfl | rfl <;> omega), h.ga, h.gk, h.gw⟩
/-- What a step leaves of it. -/
def Moves (w0 : World) (a mk mw : Nat) (w : World) (s' : Dv) (v : Value) (e : Ending) (w' : World) : Prop :=
  e = .returned v ∧ Dev w0 w' a mk mw s' ∧ TurnsIn (DSet a mk mw) w w'
theorem Dev.moves (h : Dev w0 w a mk mw s) {v : Value} {f : Nat} {args : Array Value} (c : Calls Tryd.prog f args w (Leaves (fun _ => True) a mk mw w s' v)) : Calls Tryd.prog f args w (Moves w0 a mk mw w s' v) :=
  c.mono fun _ _ ⟨e, d, t⟩ => ⟨e, h.turn d t, t⟩
end

theorem own_block {w : World} {B : Nat} {e : TypeId} {k : IntKind} {v : Value} {xs : List Int} (h : Own w B e k v xs) (hl : xs.length = 128) : ∃ g cap : Nat, v = .slice (some ⟨g, 0, none⟩) 128 cap := by
  obtain ⟨g, cap, he, _⟩ := h.form (by omega)
  exact ⟨g, cap, by rw [he, hl]⟩

/-- The example's devices. -/
theorem example_ (X : List Int) (hl : X.length = 128) : ∃ s0 s1 s2 s3 s4 : Dv, Dv.new 128 3 = s0 ∧ s0.write 0 X = (0, s1) ∧ s1.back [1] = s2 ∧ s2.read 0 = (X, 0) ∧ s2.write 0 X = (0, s3) ∧ s3.back [2] = s4 ∧ s4.read 0 = ([], 7) ∧
    (s0.offs ≤ 1000000000 ∧ s0.wr ≤ 1000000000) ∧ (s1.offs ≤ 1000000000 ∧ s1.wr ≤ 1000000000) ∧ (s2.offs ≤ 1000000000 ∧ s2.wr ≤ 1000000000) ∧ s3.offs ≤ 1000000000 := by
  refine ⟨_, ⟨128, 3, [], [(0, some X)], false, 0, -1, 1⟩, ⟨128, 3, [(0, some X)], [], false, 1, -1, 1⟩, ⟨128, 3, [(0, some X)], [(0, some X)], false, 1, -1, 2⟩, ⟨128, 3, [(0, none)], [], false, 2, -1, 2⟩, rfl, ?_, ?_, ?_, ?_, ?_, ?_, ?_, ?_, ?_, ?_⟩
  · simp [Dv.write, Dv.writes, Dv.tick, Dv.new, putS, hl]
  · rfl
  · rfl
  · simp [Dv.write, Dv.writes, Dv.tick, putS, hl]
  · rfl
  · rfl
  · exact ⟨by show (0 : Int) ≤ _; decide, by show (0 : Int) ≤ _; decide⟩
  · exact ⟨by show (0 : Int) ≤ _; decide, by show (1 : Int) ≤ _; decide⟩
  · exact ⟨by show (1 : Int) ≤ _; decide, by show (1 : Int) ≤ _; decide⟩
  · show (1 : Int) ≤ _
    decide

end Go.Proofs.YtpnodocjpedcmaaDoor.Sec

namespace Go.Proofs.YtpnodocjpedcmaaDoor.Pt
open Go.ChangeShapes Go.WideShapes Go.ChangeAt Go.RowKit Go.Proofs.YtpnodocjpedcmaaDoor.Kit Go.Proofs.YtpnodocjpedcmaaDoor.Sec

/-- What is read is a sector. -/
def Whole (s : Dv) : Prop := ∀ i xs, s.read i = (xs, 0) → xs.length = s.size ∧ Octets xs
theorem ties_rows {w : World} {I : Nat → Prop} {n : Nat} {es : List (Go.Lit × Go.DataW Unit)} {l : Sl} (h : Ties w I n es l) : ∀ q ∈ l, ∀ xs, q.2 = some xs → xs.length = n ∧ Octets xs := by
  induction h with
  | nil => exact fun q hq => (List.not_mem_nil hq).elim
  | @cons p q es l ht _ ih =>
    intro x hx xs e
    rcases List.mem_cons.1 hx with rfl | hx
    · have := ht.2
      rw [e] at this
      obtain ⟨g, c, _, h1, h2, _⟩ := this
      exact ⟨h1, h2⟩
    · exact ih x hx xs e
theorem whole_of {w : World} {I : Nat → Prop} {a mk mw : Nat} {s : Dv} (h : DvAt w I a mk mw s) : Whole s := by
  obtain ⟨es1, _, h1⟩ := h.k
  obtain ⟨es2, _, h2⟩ := h.wt
  intro i xs e
  unfold Dv.read at e
  split at e
  · cases congrArg Prod.snd e
  split at e
  · cases congrArg Prod.snd e
  split at e
  · rename_i ys hg
    injection e with e _
    subst e
    exact ties_rows h2 _ (mem_getS hg) _ rfl
  · split at e
    · injection e with e _
      subst e
      exact ⟨List.length_replicate, fun x hx => by rw [(List.mem_replicate.1 hx).2]; omega⟩
    · cases congrArg Prod.snd e
    · rename_i ys hg
      injection e with e _
      subst e
      exact ties_rows h1 _ (mem_getS hg) _ rfl

/-- The sector of a byte of a region, the byte, whether it can be read. -/
def secP (s : Dv) (F : Int) (p : Nat) : List Int × Int := s.read (F + (p / s.size : Nat))
def byteP (s : Dv) (F : Int) (p : Nat) : Int := (secP s F p).1.getD (p % s.size) 0
def rowP (s : Dv) (F : Int) (a k : Nat) : List Int := (List.range k).map (fun j => byteP s F (a + j))
def OkP (s : Dv) (F : Int) (a k : Nat) : Prop := ∀ j, j < k → (secP s F (a + j)).2 = 0
/-- What reading n bytes from a on gives. -/
def ReadsP (s : Dv) (F : Int) (a n : Nat) (r : List Int × Int) : Prop :=
  (∃ k, k < n ∧ OkP s F a k ∧ (secP s F (a + k)).2 ≠ 0 ∧ r = ([], (secP s F (a + k)).2)) ∨ (OkP s F a n ∧ r = (rowP s F a n, 0))
theorem reads_one {s : Dv} {F : Int} {a n : Nat} {r t : List Int × Int} (h : ReadsP s F a n r) (g : ReadsP s F a n t) : r = t := by
  rcases h with ⟨k, hk, h1, h2, rfl⟩ | ⟨h1, rfl⟩ <;> rcases g with ⟨l, hl, g1, g2, rfl⟩ | ⟨g1, rfl⟩
  · rcases Nat.lt_trichotomy k l with h | h | h
    · exact absurd (g1 k h) h2
    · rw [h]
    · exact absurd (h1 l h) g2
  · exact absurd (g1 k hk) h2
  · exact absurd (h1 l hl) g2
  · rfl
theorem rowP_length (s : Dv) (F : Int) (a k : Nat) : (rowP s F a k).length = k := by simp [rowP]
theorem rowP_add (s : Dv) (F : Int) (a k m : Nat) : rowP s F a (k + m) = rowP s F a k ++ rowP s F (a + k) m := by
  unfold rowP
  rw [List.range_add, List.map_append, List.map_map]
  congr 1
  refine List.map_congr_left fun j _ => ?_
  show byteP s F (a + (k + j)) = byteP s F (a + k + j)
  rw [Nat.add_assoc]
theorem in_sector {n p m j : Nat} (hm : m ≤ n - p % n) (hj : j < m) : (p + j) / n = p / n ∧ (p + j) % n = p % n + j := by
  rcases Nat.eq_zero_or_pos n with rfl | hn
  · simp at hm
    omega
  · have h1 := Nat.div_add_mod p n
    have h2 := Nat.mod_lt p hn
    have h3 : p + j = n * (p / n) + (p % n + j) := by omega
    refine ⟨?_, ?_⟩
    · rw [h3, Nat.mul_add_div hn, Nat.div_eq_of_lt (by omega : p % n + j < n), Nat.add_zero]
    · rw [h3, Nat.mul_add_mod, Nat.mod_eq_of_lt (by omega)]
theorem secP_same {s : Dv} {F : Int} {p m j : Nat} (hm : m ≤ s.size - p % s.size) (hj : j < m) : secP s F (p + j) = secP s F p := by
  unfold secP
  rw [(in_sector hm hj).1]
/-- A sector's piece. -/
theorem piece {s : Dv} {F : Int} {p m : Nat} {xs : List Int} (hx : xs.length = s.size) (h : secP s F p = (xs, 0)) (hm : m ≤ s.size - p % s.size) : (xs.drop (p % s.size)).take m = rowP s F p m := by
  apply List.ext_getElem
  · rw [List.length_take, List.length_drop, rowP_length, hx]
    omega
  · intro j h1 h1'
    have h2 := h1'
    rw [rowP_length] at h2
    have e : (rowP s F p m)[j]'h1' = byteP s F (p + j) := by simp [rowP]
    rw [e, List.getElem_take, List.getElem_drop]
    unfold byteP
    rw [secP_same hm h2, h, (in_sector hm h2).2]
    simp only
    rw [List.getD, List.getElem?_eq_getElem (by omega : p % s.size + j < xs.length)]
    rfl
theorem okP_add {s : Dv} {F : Int} {a k m : Nat} (h : OkP s F a k) (hm : m ≤ s.size - (a + k) % s.size) (h0 : (secP s F (a + k)).2 = 0) : OkP s F a (k + m) := by
  intro j hj
  by_cases hk : j < k
  · exact h j hk
  · have e : a + j = (a + k) + (j - k) := by omega
    rw [e, secP_same hm (by omega)]
    exact h0
theorem rowP_octets {s : Dv} {F : Int} (hw : Whole s) : ∀ {a k : Nat}, OkP s F a k → Octets (rowP s F a k) := by
  intro a k h x hx
  unfold rowP at hx
  obtain ⟨j, hj, rfl⟩ := List.mem_map.1 hx
  have h0 := h j (List.mem_range.1 hj)
  unfold byteP
  have hr := hw (F + ((a + j) / s.size : Nat)) (secP s F (a + j)).1 (by
    show secP s F (a + j) = _
    rw [← h0])
  rw [List.getD]
  cases hg : (secP s F (a + j)).1[(a + j) % s.size]? with
  | none => simp
  | some y => exact hr.2 y (List.mem_of_getElem? hg)
end Go.Proofs.YtpnodocjpedcmaaDoor.Pt

namespace Go.Proofs.YtpnodocjpedcmaaDoor.Pt
open Go.ChangeShapes Go.WideShapes Go.ChangeAt Go.RowKit Go.Proofs.YtpnodocjpedcmaaDoor.Kit Go.Proofs.YtpnodocjpedcmaaDoor.Sec

/-- Bytes, and zeros to the end of the sector. -/
def padB (n : Nat) (xs : List Int) : List Int := xs ++ List.replicate (n - xs.length) 0
/-- The k-th sector that is written. -/
def chunkP (n : Nat) (bs : List Int) (k : Nat) : List Int := padB n ((bs.drop (k * n)).take n)
theorem padB_length {n : Nat} {xs : List Int} (h : xs.length ≤ n) : (padB n xs).length = n := by
  unfold padB
  rw [List.length_append, List.length_replicate]
  omega
theorem chunkP_length (n : Nat) (bs : List Int) (k : Nat) : (chunkP n bs k).length = n := padB_length (by rw [List.length_take]; omega)
theorem chunkP_octets {n : Nat} {bs : List Int} (h : Octets bs) (k : Nat) : Octets (chunkP n bs k) := by
  intro x hx
  unfold chunkP padB at hx
  rcases List.mem_append.1 hx with hx | hx
  · exact h x (List.mem_of_mem_drop (List.mem_of_mem_take hx))
  · rw [(List.mem_replicate.1 hx).2]
    omega
/-- The device behind k writes. -/
def wrS (s : Dv) (i : Int) (bs : List Int) : Nat → Dv
  | 0 => s
  | k + 1 => ((wrS s i bs k).write (i + k) (chunkP s.size bs k)).2
def errS (s : Dv) (i : Int) (bs : List Int) (k : Nat) : Int := ((wrS s i bs k).write (i + k) (chunkP s.size bs k)).1
def OkW (s : Dv) (i : Int) (bs : List Int) (k : Nat) : Prop := ∀ j, j < k → errS s i bs j = 0
/-- How many sectors are written. -/
def manyP (n : Nat) (bs : List Int) : Nat := (bs.length + n - 1) / n
def WritesP (s : Dv) (i : Int) (bs : List Int) (r : Int × Dv) : Prop :=
  (∃ k, k < manyP s.size bs ∧ OkW s i bs k ∧ errS s i bs k ≠ 0 ∧ r = (errS s i bs k, wrS s i bs (k + 1))) ∨ (OkW s i bs (manyP s.size bs) ∧ r = (0, wrS s i bs (manyP s.size bs)))
theorem writes_one {s : Dv} {i : Int} {bs : List Int} {r t : Int × Dv} (h : WritesP s i bs r) (g : WritesP s i bs t) : r = t := by
  rcases h with ⟨k, hk, h1, h2, rfl⟩ | ⟨h1, rfl⟩ <;> rcases g with ⟨l, hl, g1, g2, rfl⟩ | ⟨g1, rfl⟩
  · rcases Nat.lt_trichotomy k l with h | h | h
    · exact absurd (g1 k h) h2
    · rw [h]
    · exact absurd (h1 l h) g2
  · exact absurd (g1 k hk) h2
  · exact absurd (h1 l hl) g2
  · rfl
theorem manyP_iff {n : Nat} (hn : 0 < n) (bs : List Int) (k : Nat) : k < manyP n bs ↔ k * n < bs.length := by
  unfold manyP
  rw [Nat.lt_iff_add_one_le, Nat.le_div_iff_mul_le hn, Nat.add_mul, Nat.one_mul]
  omega
theorem write_near (s : Dv) (i : Int) (xs : List Int) : (s.write i xs).2.offs ≤ s.offs + 1 ∧ (s.write i xs).2.wr ≤ s.wr + 1 ∧ (s.write i xs).2.size = s.size ∧ (s.write i xs).2.count = s.count := by
  have ht : ∀ u : Dv, u.tick.offs ≤ u.offs + 1 ∧ u.tick.wr = u.wr ∧ u.tick.size = u.size ∧ u.tick.count = u.count := by
    intro u
    unfold Dv.tick Dv.down
    split
    · exact ⟨by omega, rfl, rfl, rfl⟩
    · split
      · split
        · exact ⟨by omega, rfl, rfl, rfl⟩
        · exact ⟨Int.le_refl _, rfl, rfl, rfl⟩
      · exact ⟨by show u.offs ≤ _; omega, rfl, rfl, rfl⟩
  unfold Dv.write
  split
  · exact ⟨by show s.offs ≤ _; omega, by show s.wr ≤ _; omega, rfl, rfl⟩
  split
  · exact ⟨by show s.offs ≤ _; omega, by show s.wr ≤ _; omega, rfl, rfl⟩
  split
  · exact ⟨by show s.offs ≤ _; omega, by show s.wr ≤ _; omega, rfl, rfl⟩
  have h := ht (s.writes i xs)
  split
  · exact ⟨h.1, by have h2 := h.2.1; have h3 : (s.writes i xs).wr = s.wr := rfl; show (s.writes i xs).tick.wr ≤ _; omega, h.2.2.1, h.2.2.2⟩
  · exact ⟨h.1, Int.le_refl _, h.2.2.1, h.2.2.2⟩
theorem wrS_near (s : Dv) (i : Int) (bs : List Int) : ∀ k, (wrS s i bs k).offs ≤ s.offs + k ∧ (wrS s i bs k).wr ≤ s.wr + k ∧ (wrS s i bs k).size = s.size ∧ (wrS s i bs k).count = s.count
  | 0 => ⟨by show s.offs ≤ s.offs + ((0 : Nat) : Int); omega, by show s.wr ≤ s.wr + ((0 : Nat) : Int); omega, rfl, rfl⟩
  | k + 1 => by
    obtain ⟨h1, h2, h3, h4⟩ := wrS_near s i bs k
    obtain ⟨g1, g2, g3, g4⟩ := write_near (wrS s i bs k) (i + k) (chunkP s.size bs k)
    refine ⟨?_, ?_, g3.trans h3, g4.trans h4⟩
    · show ((wrS s i bs k).write (i + k) (chunkP s.size bs k)).2.offs ≤ _
      omega
    · show ((wrS s i bs k).write (i + k) (chunkP s.size bs k)).2.wr ≤ _
      omega
end Go.Proofs.YtpnodocjpedcmaaDoor.Pt

namespace Go.Proofs.YtpnodocjpedcmaaDoor.Pt
open Go.ChangeShapes Go.WideShapes Go.ChangeAt Go.RowKit Go.Proofs.YtpnodocjpedcmaaDoor.Kit Go.Proofs.YtpnodocjpedcmaaDoor.Sec

theorem isin_any (x a b : Int) (w : World) : Calls Tryd.prog 96 #[.int .i64 x, .int .i64 a, .int .i64 b] w fun e w' => e = .returned (.bool (decide (a ≤ x ∧ x ≤ b))) ∧ w = w' := by
  by_cases h1 : a ≤ x
  · by_cases h2 : x ≤ b
    · rw [decide_eq_true (show a ≤ x ∧ x ≤ b from ⟨h1, h2⟩)]
      have q : decide (x ≤ b) = true := by simpa using h2
      go_enter Tryd.func96, Tryd.ntmps96
      go_wp2
      go_ret
      exact ⟨rfl, rfl⟩
    · rw [decide_eq_false (show ¬ (a ≤ x ∧ x ≤ b) from fun h => h2 h.2)]
      have q : decide (x ≤ b) = false := by simpa using h2
      go_enter Tryd.func96, Tryd.ntmps96
      go_wp2
      go_ret
      exact ⟨rfl, rfl⟩
  · rw [decide_eq_false (show ¬ (a ≤ x ∧ x ≤ b) from fun h => h1 h.1)]
    go_enter Tryd.func96, Tryd.ntmps96
    go_wp2
    go_ret
    exact ⟨rfl, rfl⟩

/-- A part of the device in block a lies in block p. -/
def PartAt (w : World) (p a : Nat) (F C : Int) : Prop := Block w p 139 #[.pointer (some ⟨a, 0, none⟩), .int .i64 F, .int .i64 C]
/-- A region that is there; T: how many bytes it has. -/
structure Lies (s : Dv) (F C : Int) (T : Nat) : Prop where
  f0 : 0 ≤ F
  c1 : 1 ≤ C
  fc : F + C ≤ s.count
  t : C * (s.size : Int) = T
theorem Lies.most {s : Dv} {F C : Int} {T : Nat} (h : Lies s F C T) (hs : s.Ok) : T ≤ 4294967296 := by
  have h1 : C ≤ 1048576 := by have := h.fc; have := h.f0; have := hs.c2; omega
  have h2 := h.c1
  have h3 : (s.size : Int) ≤ 4096 := by have := hs.s2; omega
  have h4 : C * (s.size : Int) ≤ 1048576 * 4096 := Int.mul_le_mul h1 h3 (by omega) (by omega)
  have := h.t
  omega

set_option maxRecDepth 100000 in
set_option maxHeartbeats 3200000 in
theorem psize_any (I : Nat → Prop) (p a mk mw : Nat) (F C : Int) (T : Nat) (s : Dv) (w : World) (hp : PartAt w p a F C) (h : DvAt w I a mk mw s) (hl : Lies s F C T) :
    Calls Tryd.prog 97 #[.pointer (some ⟨p, 0, none⟩)] w fun e w' => e = .returned (.int .i64 T) ∧ ∃ n, w' = w.drewN n := by
  have x0 : w.cell? ⟨p, 0, none⟩ = some (.pointer (some ⟨a, 0, none⟩)) := hp.cell 0
  have x1 : w.cell? ⟨p, 1, none⟩ = some (.int .i64 F) := hp.cell 1
  have x2 : w.cell? ⟨p, 2, none⟩ = some (.int .i64 C) := hp.cell 2
  have HD : Hid (∀ n, DvAt (w.drewN n) I a mk mw s) := Lib.hid (fun n => h.below (below_draws (Below.refl _ _) n))
  have hm := hl.t
  have hT := hl.most h.ok
  clear h hl hp
  go_enter Tryd.func97, Tryd.ntmps97
  go_wp2_with fail
  go_quiet ((go_at_call 57; exact Calls.quiet_of_same ((size_any I a mk mw s _ (HD.out _)).mono fun _ _ h => ⟨h.1, h.2.symm⟩)))
  go_wp2_with fail
  go_ret
  exact ⟨rfl, nq, rfl⟩

set_option maxRecDepth 100000 in
set_option maxHeartbeats 3200000 in
theorem has_any (I : Nat → Prop) (p a mk mw : Nat) (F C : Int) (T : Nat) (s : Dv) (x n : Int) (w : World) (hp : PartAt w p a F C) (h : DvAt w I a mk mw s) (hl : Lies s F C T) (hx : -9223372036854775808 ≤ x ∧ x ≤ 9223372036854775807) :
    Calls Tryd.prog 76 #[.pointer (some ⟨p, 0, none⟩), .int .i64 x, .int .i64 n] w fun e w' => e = .returned (.bool (decide (0 ≤ x ∧ x ≤ T ∧ 0 ≤ n ∧ n ≤ T - x))) ∧ ∃ k, w' = w.drewN k := by
  have GS := Lib.hid (fun k => psize_any I p a mk mw F C T s (w.drewN k) hp (h.below (below_draws (Below.refl _ _) k)) hl)
  have GS0 := Lib.hid (psize_any I p a mk mw F C T s w hp h hl)
  have hT := hl.most h.ok
  clear hp h hl
  by_cases h1 : 0 ≤ x ∧ x ≤ (T : Int)
  · rw [show decide (0 ≤ x ∧ x ≤ (T : Int) ∧ 0 ≤ n ∧ n ≤ (T : Int) - x) = decide (0 ≤ n ∧ n ≤ (T : Int) - x) by rw [decide_eq_decide]; omega]
    have GI1 := Lib.hid (fun W => isin_any x 0 T W)
    have GI2 := Lib.hid (fun W => isin_any n 0 ((T : Int) - x) W)
    rw [decide_eq_true h1] at GI1
    generalize decide (0 ≤ n ∧ n ≤ (T : Int) - x) = b at *
    go_enter Tryd.func76, Tryd.ntmps76
    go_wp2_with (first
      | (go_at_call 97; (with_reducible refine GS0.out.mono ?_); rintro e w1 ⟨rfl, k1, rfl⟩; clear GS0)
      | (go_at_call 97; (with_reducible refine (GS.out k1).mono ?_); rintro e w1 ⟨rfl, k2, rfl⟩)
      | (go_at_call 96; (with_reducible refine (GI1.out _).mono ?_); rintro e w1 ⟨rfl, rfl⟩)
      | (go_at_call 96; (with_reducible refine (GI2.out _).mono ?_); rintro e w1 ⟨rfl, rfl⟩))
    go_ret
    exact ⟨rfl, k1 + k2, rfl⟩
  · rw [decide_eq_false (fun h => h1 ⟨h.1, h.2.1⟩)]
    have GI1 := Lib.hid (fun W => isin_any x 0 T W)
    rw [decide_eq_false h1] at GI1
    go_enter Tryd.func76, Tryd.ntmps76
    go_wp2_with (first
      | (go_at_call 97; (with_reducible refine GS0.out.mono ?_); rintro e w1 ⟨rfl, k1, rfl⟩)
      | (go_at_call 96; (with_reducible refine (GI1.out _).mono ?_); rintro e w1 ⟨rfl, rfl⟩))
    go_ret
    exact ⟨rfl, k1, rfl⟩
end Go.Proofs.YtpnodocjpedcmaaDoor.Pt

namespace Go.Proofs.YtpnodocjpedcmaaDoor.Pt
open Go.ChangeShapes Go.WideShapes Go.ChangeAt Go.RowKit Go.Proofs.YtpnodocjpedcmaaDoor.Kit Go.Proofs.YtpnodocjpedcmaaDoor.Sec

def PRead (s : Dv) (F : Int) (T : Nat) (x n : Int) (r : List Int × Int) : Prop :=
  if 0 ≤ x ∧ x ≤ T ∧ 0 ≤ n ∧ n ≤ T - x then ReadsP s F x.toNat n.toNat r else r = ([], 5)

set_option maxRecDepth 100000 in
set_option maxHeartbeats 6400000 in
theorem pread_any (I : Nat → Prop) (p a mk mw : Nat) (F C : Int) (T : Nat) (s : Dv) (x n : Int) (w : World) (hp : PartAt w p a F C) (h : DvAt w I a mk mw s) (hl : Lies s F C T) (hx : -9223372036854775808 ≤ x ∧ x ≤ 9223372036854775807) :
    Calls Tryd.prog 49 #[.pointer (some ⟨p, 0, none⟩), .int .i64 x, .int .i64 n] w fun e w' => ∃ r, PRead s F T x n r ∧ GivesB r.1 r.2 w e w' := by
  have GH := Lib.hid (has_any I p a mk mw F C T s x n w hp h hl hx)
  unfold PRead
  by_cases hin : 0 ≤ x ∧ x ≤ (T : Int) ∧ 0 ≤ n ∧ n ≤ (T : Int) - x
  · rw [decide_eq_true hin] at GH
    obtain ⟨b, rfl⟩ : ∃ b : Nat, x = (b : Int) := ⟨x.toNat, by omega⟩
    obtain ⟨N, rfl⟩ : ∃ N : Nat, n = (N : Int) := ⟨n.toNat, by omega⟩
    simp only [if_pos hin, Int.toNat_natCast]
    have hT := hl.most h.ok
    have hs1 := h.ok.s1
    have hs2 := h.ok.s2
    have hW := Lib.hid (whole_of h)
    have HL := Lib.hid hl
    have HPD := Lib.hid (fun W (hb : Below w.heap.size w W) => (⟨hp.below hb (Block.lt hp), h.below hb⟩ : PartAt W p a F C ∧ DvAt W I a mk mw s))
    clear hp h hl hx
    go_enter Tryd.func49, Tryd.ntmps49
    go_wp2_with (go_at_call 76; (with_reducible refine GH.out.mono ?_); rintro e w1 ⟨rfl, k1, hk1⟩
                 have B1 : Below w.heap.size w w1 := by rw [hk1]; exact below_draws (Below.refl _ _) k1
                 have x0 : w1.cell? ⟨p, 0, none⟩ = some (.pointer (some ⟨a, 0, none⟩)) := (HPD.out _ B1).1.cell 0
                 clear hk1 GH)
    refine (size_any I a mk mw s _ (HPD.out _ B1).2).mono ?_
    rintro e w2 ⟨rfl, rfl⟩
    go_wp2_with (at_make; refine wpList_make_ints _ rfl _ _ _ rfl elem8 0 N rfl rfl rfl rfl (Nat.zero_le _) (by omega) ?_; intro w2 own2 hb2 hz2)
    have own3 : Own w2 w.heap.size 5 .u8 (.slice (some ⟨w1.heap.size, 0, none⟩) 0 N) (rowP s F b 0) := own2.mono B1.size
    have B2 := B1.trans (hb2.mono B1.size)
    have HO3 := Lib.hid own3
    clear own2 own3 hb2 hz2 x0
    have hCS := HL.out.t
    go_loopw [1, 9] (fun q v wr => ∃ P k : Nat, P = b + k ∧ k ≤ N ∧ q = .int .i64 (P : Int) ∧ Own wr w.heap.size 5 .u8 v (rowP s F b k) ∧ OkP s F b k ∧ Below w.heap.size w wr) (fun q _ _ => b + N - (intOf q).toNat)
    case atStart => exact ⟨b, 0, rfl, Nat.zero_le _, rfl, HO3.out, fun j hj => absurd hj (by omega), B2⟩
    case round =>
      clear HO3 B2 B1
      obtain ⟨P, k, hP, hk, rfl, own, hok, hb⟩ := hrel
      obtain ⟨A2, c2, hv, hc2, hm2, -⟩ := own.opened
      rw [rowP_length] at hv hc2
      subst hv
      by_cases hlt : k < N
      · have d0 : decide ((k : Int) < (N : Int)) = true := decide_eq_true (by omega)
        obtain ⟨xs, E, hsec⟩ : ∃ xs E, secP s F P = (xs, E) := ⟨_, _, rfl⟩
        obtain ⟨Q, hQ⟩ : ∃ Q : Nat, P / s.size = Q := ⟨_, rfl⟩
        have hPT : (Q : Int) < C := by
          have h1 : P / s.size * s.size ≤ P := Nat.div_mul_le_self _ _
          rw [hQ] at h1
          have h2 : ((Q * s.size : Nat) : Int) < C * (s.size : Int) := by omega
          rw [Int.natCast_mul] at h2
          exact Int.lt_of_mul_lt_mul_right h2 (by omega)
        have hq11 : (P : Int).tdiv (s.size : Int) = (Q : Int) := by rw [← hQ]; exact (Int.ofNat_tdiv P s.size).symm
        have hFC := HL.out.fc
        have hF0 := HL.out.f0
        have hcnt : (s.count : Int) ≤ 1048576 := by have := (HPD.out _ hb).2.ok.c2; omega
        have GRD : Hid (∀ W, Below w.heap.size w W → Calls Tryd.prog 77 #[.pointer (some ⟨a, 0, none⟩), .int .i64 (F + (Q : Int))] W (GivesB xs E W)) := Lib.hid (fun W hB => by
          have := read_any I a mk mw s (F + (Q : Int)) W (HPD.out _ hB).2 (by omega)
          have e : s.read (F + (Q : Int)) = (xs, E) := by rw [← hQ]; exact hsec
          rwa [e] at this)
        have HS := Lib.hid hsec
        have HPk := Lib.hid hP
        have HOK := Lib.hid hok
        clear hsec hok hP
        have hsz : ¬ s.size = 0 := by omega
        go_wp2_with fail
        refine wp_region_held_drew (S := (fun W => PartAt W p a F C)) (by kernel_rfl) (HPD.out _ hb).1 (fun hS => ?_)
        refine wpAnyH_take (i := 0) (oi := ⟨some 31, _, _, _, _, _⟩) (v := .pointer (some ⟨p, 0, none⟩)) rfl (by kernel_rfl) (by kernel_rfl) (by kernel_rfl) (fun _ _ _ h => h) (Or.inl ⟨by rfl, fun W hW => by go_simp⟩) hS ?_
        try simp only [Act.put, List.setIfInBounds_toArray, List.set_cons_zero, List.set_cons_succ]
        refine wpAnyH_take (i := 4) (oi := ⟨some 35, _, _, _, _, _⟩) (v := .pointer (some ⟨p, 0, none⟩)) rfl (by kernel_rfl) (by kernel_rfl) (by kernel_rfl) (fun _ _ _ h => h) (Or.inl ⟨by rfl, fun W hW => by go_simp⟩) hS ?_
        try simp only [Act.put, List.setIfInBounds_toArray, List.set_cons_zero, List.set_cons_succ]
        refine wpAnyH_take (i := 9) (oi := ⟨some 40, _, _, _, _, _⟩) (v := .int .i64 (P : Int)) rfl (by kernel_rfl) (by kernel_rfl) (by kernel_rfl) (fun _ _ _ h => h) (Or.inl ⟨by rfl, fun W hW => by go_simp⟩) hS ?_
        try simp only [Act.put, List.setIfInBounds_toArray, List.set_cons_zero, List.set_cons_succ]
        refine wpAnyH_take (i := 10) (oi := ⟨some 41, _, _, _, _, _⟩) (v := .int .i64 (s.size : Int)) rfl (by kernel_rfl) (by kernel_rfl) (by kernel_rfl) (fun _ _ _ h => h) (Or.inl ⟨by rfl, fun W hW => by go_simp⟩) hS ?_
        try simp only [Act.put, List.setIfInBounds_toArray, List.set_cons_zero, List.set_cons_succ]
        refine wpAnyH_take (i := 1) (oi := ⟨some 32, _, _, _, _, _⟩) (v := .pointer (some ⟨p, 0, none⟩)) rfl (by kernel_rfl) (by kernel_rfl) (by kernel_rfl) (fun _ _ _ h => h) (Or.inl ⟨by rfl, fun W hW => by go_simp⟩) hS ?_
        try simp only [Act.put, List.setIfInBounds_toArray, List.set_cons_zero, List.set_cons_succ]
        refine wpAnyH_take (i := 5) (oi := ⟨some 36, _, _, _, _, _⟩) (v := .pointer (some ⟨p, 0, none⟩)) rfl (by kernel_rfl) (by kernel_rfl) (by kernel_rfl) (fun _ _ _ h => h) (Or.inl ⟨by rfl, fun W hW => by go_simp⟩) hS ?_
        try simp only [Act.put, List.setIfInBounds_toArray, List.set_cons_zero, List.set_cons_succ]
        refine wpAnyH_take (i := 11) (oi := ⟨some 42, _, _, _, _, _⟩) (v := .int .i64 (Q : Int)) rfl (by kernel_rfl) (by kernel_rfl) (by kernel_rfl) (fun _ _ _ h => h) (Or.inl ⟨by rfl, fun W hW => by go_simp; first | exact IntWalk.i64_in _ (by omega) | (rw [hq11]; exact IntWalk.i64_in _ (by omega))⟩) hS ?_
        try simp only [Act.put, List.setIfInBounds_toArray, List.set_cons_zero, List.set_cons_succ]
        refine wpAnyH_take (i := 2) (oi := ⟨some 33, _, _, _, _, _⟩) (v := .pointer (some ⟨p, 0, none⟩)) rfl (by kernel_rfl) (by kernel_rfl) (by kernel_rfl) (fun _ _ _ h => h) (Or.inl ⟨by rfl, fun W hW => by go_simp⟩) hS ?_
        try simp only [Act.put, List.setIfInBounds_toArray, List.set_cons_zero, List.set_cons_succ]
        refine wpAnyH_take (i := 6) (oi := ⟨some 37, _, _, _, _, _⟩) (v := .pointer (some ⟨p, 1, none⟩)) rfl (by kernel_rfl) (by kernel_rfl) (by kernel_rfl) (fun _ _ _ h => h) (Or.inl ⟨by rfl, fun W hW => by go_simp⟩) hS ?_
        try simp only [Act.put, List.setIfInBounds_toArray, List.set_cons_zero, List.set_cons_succ]
        refine wpAnyH_take (i := 3) (oi := ⟨some 34, _, _, _, _, _⟩) (v := .pointer (some ⟨a, 0, none⟩)) rfl (by kernel_rfl) (by kernel_rfl) (by kernel_rfl) (fun _ _ _ h => h) (Or.inl ⟨by rfl, fun W hW => by have q0 : W.cell? ⟨p, 0, none⟩ = some (.pointer (some ⟨a, 0, none⟩)) := Block.cell hW 0; have q1 : W.cell? ⟨p, 1, none⟩ = some (.int .i64 F) := Block.cell hW 1; go_simp⟩) hS ?_
        try simp only [Act.put, List.setIfInBounds_toArray, List.set_cons_zero, List.set_cons_succ]
        refine wpAnyH_take (i := 7) (oi := ⟨some 38, _, _, _, _, _⟩) (v := .pointer (some ⟨p, 1, none⟩)) rfl (by kernel_rfl) (by kernel_rfl) (by kernel_rfl) (fun _ _ _ h => h) (Or.inl ⟨by rfl, fun W hW => by go_simp⟩) hS ?_
        try simp only [Act.put, List.setIfInBounds_toArray, List.set_cons_zero, List.set_cons_succ]
        refine wpAnyH_take (i := 8) (oi := ⟨some 39, _, _, _, _, _⟩) (v := .int .i64 F) rfl (by kernel_rfl) (by kernel_rfl) (by kernel_rfl) (fun _ _ _ h => h) (Or.inl ⟨by rfl, fun W hW => by have q0 : W.cell? ⟨p, 0, none⟩ = some (.pointer (some ⟨a, 0, none⟩)) := Block.cell hW 0; have q1 : W.cell? ⟨p, 1, none⟩ = some (.int .i64 F) := Block.cell hW 1; go_simp⟩) hS ?_
        try simp only [Act.put, List.setIfInBounds_toArray, List.set_cons_zero, List.set_cons_succ]
        refine wpAnyH_take (i := 12) (oi := ⟨some 43, _, _, _, _, _⟩) (v := .int .i64 (F + (Q : Int))) rfl (by kernel_rfl) (by kernel_rfl) (by kernel_rfl) (fun _ _ _ h => h) (Or.inl ⟨by rfl, fun W hW => by go_simp; exact IntWalk.i64_in _ (by omega)⟩) hS ?_
        try simp only [Act.put, List.setIfInBounds_toArray, List.set_cons_zero, List.set_cons_succ]
        refine wpAnyH_ready (rs := [13]) (by kernel_rfl) (by simp) ?_
        refine AllReadyH.cons rfl (fun K hK => ?_) AllReadyH.nil
        go_simp
        go_at_call 77
        refine (GRD.out _ (below_draws hb 1)).mono ?_
        rintro e x1 ⟨v1, rfl, own1, hb1⟩
        have hbx := (below_draws hb 1).trans (hb1.mono hb.size)
        have own9 : Own x1 w.heap.size 5 .u8 (.slice A2 k c2) (rowP s F b k) := (Own.drewN own 1).below hb1
        have own1 := own1.mono (show w.heap.size ≤ wr.heap.size from hb.size)
        refine hK.out _ _ (HPD.out _ hbx).1 (fun hS => ?_)
        clear hK K
        try simp only [Act.put, List.setIfInBounds_toArray, List.set_cons_zero, List.set_cons_succ]
        refine wpAnyH_take (i := 14) (oi := ⟨some 30, _, _, _, _, _⟩) (v := .tuple #[v1, .int .i64 E]) rfl (by kernel_rfl) (by kernel_rfl) (by kernel_rfl) (fun _ _ _ h => h) (Or.inl ⟨by rfl, fun W hW => by go_simp⟩) hS ?_
        try simp only [Act.put, List.setIfInBounds_toArray, List.set_cons_zero, List.set_cons_succ]
        refine wpAnyH_take (i := 15) (oi := ⟨some 45, _, _, _, _, _⟩) (v := v1) rfl (by kernel_rfl) (by kernel_rfl) (by kernel_rfl) (fun _ _ _ h => h) (Or.inl ⟨by rfl, fun W hW => by go_simp⟩) hS ?_
        try simp only [Act.put, List.setIfInBounds_toArray, List.set_cons_zero, List.set_cons_succ]
        refine wpAnyH_take (i := 16) (oi := ⟨some 46, _, _, _, _, _⟩) (v := .int .i64 E) rfl (by kernel_rfl) (by kernel_rfl) (by kernel_rfl) (fun _ _ _ h => h) (Or.inl ⟨by rfl, fun W hW => by go_simp⟩) hS ?_
        try simp only [Act.put, List.setIfInBounds_toArray, List.set_cons_zero, List.set_cons_succ]
        refine wpAnyH_ready (rs := [17]) (by kernel_rfl) (by simp) ?_
        refine AllReadyH.cons rfl (fun K hK => ?_) AllReadyH.nil
        go_simp
        refine hK.out _ _ (HPD.out _ hbx).1 (fun hS => ?_)
        clear hK K
        try simp only [Act.put, List.setIfInBounds_toArray, List.set_cons_zero, List.set_cons_succ]
        refine wpAnyH_ready (rs := [18]) (by kernel_rfl) (by simp) ?_
        refine AllReadyH.cons rfl (fun K hK => ?_) AllReadyH.nil
        go_simp
        refine hK.out _ _ (HPD.out _ hbx).1 (fun hS => ?_)
        clear hK K
        try simp only [Act.put, List.setIfInBounds_toArray, List.set_cons_zero, List.set_cons_succ]
        refine wpAnyH_done (by kernel_rfl) ?_ _
        have HD1 := HPD.out _ hbx
        by_cases hE : E = 0
        · subst hE
          have hrow := hW.out
          have hxs := (hW.out (F + (Q : Int)) xs (by rw [← hQ]; exact HS.out)).1
          obtain ⟨g1, c1, hv1, hg1, hg2, hc1, hm1⟩ := own1.form (by omega)
          subst hv1
          have hh1 : Holds x1 x1.heap.size .u8 (some ⟨g1, 0, none⟩) xs := by
            obtain ⟨A9, c9, he9, -, -, hh9⟩ := own1.opened
            injection he9 with e1 e2 e3
            subst e1
            exact hh9
          rw [hxs] at hc1
          have hrem : (P : Int).tmod (s.size : Int) = ((P % s.size : Nat) : Int) := (Int.ofNat_tmod P s.size).symm
          obtain ⟨r, hr⟩ : ∃ r, P % s.size = r := ⟨_, rfl⟩
          have hrl : r < s.size := by rw [← hr]; exact Nat.mod_lt _ (by omega)
          rw [hr] at hrem
          have hc1r : ¬ c1 = r := by omega
          rw [hxs]
          obtain ⟨m, hmm⟩ : ∃ m : Nat, m = min (s.size - r) (N - k) := ⟨_, rfl⟩
          have hyl : ((xs.drop r).take m).length = m := by rw [List.length_take, List.length_drop, hxs]; omega
          have hys : (xs.drop r).take m = rowP s F (b + k) m := by
            have := piece (m := m) hxs HS.out (by rw [hr]; omega)
            rw [hr] at this
            rw [this, HPk.out]
          have HY := Lib.hid hys
          have hh2 := hh1.sub r m (by rw [hxs]; omega)
          rw [Nat.zero_add] at hh2
          have HOK2 := Lib.hid (okP_add (m := m) HOK.out (by rw [← HPk.out, hr]; omega) (by rw [← HPk.out, HS.out]))
          generalize hyy : (xs.drop r).take m = ys at *
          clear hyy hys hh1 hrow hxs
          obtain ⟨L, hL⟩ : ∃ L, s.size - r = L := ⟨_, rfl⟩
          have hr0 : (r : Int) ≤ (s.size : Int) := by omega
          have hmn : min (L : Int) ((N : Int) - (k : Int)) = (m : Int) := by omega
          have hml : (m : Int) ≤ (L : Int) := by omega
          have hmp : 0 < m := by omega
          have hmk : k + m ≤ N := by omega
          have HL2 := Lib.hid hL
          have d1 : (decide ((L : Int) ≤ (N : Int) - (k : Int)) = true ∧ L = m) ∨ (decide ((L : Int) ≤ (N : Int) - (k : Int)) = false ∧ N - k = m) := by
            by_cases h : L ≤ N - k
            · exact Or.inl ⟨decide_eq_true (by omega), by omega⟩
            · exact Or.inr ⟨decide_eq_false (by omega), by omega⟩
          have HMT : Hid ((min (L : Int) ((N : Int) - (k : Int))).toNat = m) := Lib.hid (by omega)
          have hbz := hbx.size
          have hyl2 : (rowP s F b k ++ ys).length = k + m := by rw [List.length_append, rowP_length, hyl]
          clear d1 hmn
          go_wp2_with (at_builtin; rw [HMT.out]; refine wpList_append_ints (ys := ys) _ rfl (.tmp 64) (.tmp 65) 22 rfl elem8 own9 rfl (by rw [hyl]; rfl) hh2 (by rw [rowP_length, hyl]; omega) hbz ?_; intro v7 w7 own7 g7 hb7 _)
          have own7 : Own w7 w.heap.size 5 .u8 v7 (rowP s F b (k + m)) := by rw [rowP_add, ← HY.out]; exact own7
          have HO7 := Lib.hid own7
          have hb8 := Lib.hid (hbx.trans hb7)
          clear own7 own9 own1 g7 hb7 HD1 hbx hh2 hb1 own
          have hmN : min L (N - k) = m := by omega
          have hPb : P + m ≤ 8589934592 := by have := HPk.out; omega
          have hw64 := Lib.hid (IntWalk.wrap64_in ((P : Int) + ((min L (N - k) : Nat) : Int)) (by rw [hmN]; omega))
          go_wp2_with fail
          go_roundw
          case rel => exact ⟨P + m, k + m, by rw [HPk.out]; omega, hmk, by (congr 1; exact hw64.out.trans (by rw [hmN, Int.natCast_add])), HO7.out, HOK2.out, hb8.out⟩
          case measure =>
            have := HPk.out
            rw [hw64.out, hmN]
            simp only [intOf]
            omega
        · have d1 : (E != 0) = true := by simpa using hE
          go_wp2_with fail
          go_ret2
          exact ⟨([], E), Or.inl ⟨k, hlt, HOK.out, by rw [← HPk.out, HS.out]; exact hE, by rw [← HPk.out, HS.out]⟩, _, rfl, Own.nil x1 w.heap.size 5 .u8, hbx⟩
      · obtain rfl : k = N := by omega
        have d0 : decide ((k : Int) < (k : Int)) = false := decide_eq_false (by omega)
        clear hlt
        go_wp2_with fail
        go_ret2
        exact ⟨(rowP s F b k, 0), Or.inr ⟨hok, rfl⟩, _, rfl, own, hb⟩
  · rw [decide_eq_false hin] at GH
    simp only [if_neg hin]
    clear hp h hl hx hin
    go_enter Tryd.func49, Tryd.ntmps49
    go_wp2_with (go_at_call 76; (with_reducible refine GH.out.mono ?_); rintro e w1 ⟨rfl, k1, hk1⟩
                 have B1 : Below w.heap.size w w1 := by rw [hk1]; exact below_draws (Below.refl _ _) k1
                 clear hk1 GH)
    go_ret2
    exact ⟨_, rfl, _, rfl, Own.nil w1 w.heap.size 5 .u8, B1⟩
end Go.Proofs.YtpnodocjpedcmaaDoor.Pt

namespace Go.Proofs.YtpnodocjpedcmaaDoor.Pt
open Go.ChangeShapes Go.WideShapes Go.ChangeAt Go.RowKit Go.Proofs.YtpnodocjpedcmaaDoor.Kit Go.Proofs.YtpnodocjpedcmaaDoor.Sec

/-- copy(v, ys), ys of any length. -/
theorem wpList_copy_some {P : Program} {w : World} {ops : Array Oper} {rest : List Oper} {o : Oper} {a : Act} {Q : Exit → Act → World → Prop} (hgd : o.guard = none) (d s : Operand) (t : TypeId)
    (ho : o.op = .call { callee := .builtin .copy, args := #[d, s], argTypes := #[t, t] }) {e : TypeId} {k : IntKind} {bytes : Nat} (he : IntElem P t e k bytes)
    {B B' : Nat} {v : Value} {xs ys : List Int} (hown : Own w B e k v xs) (hd : a.eval d = v) {A : Option Addr} {c : Nat} (hs : a.eval s = .slice A ys.length c) (hr : Holds w B' k A ys)
    (hx : 0 < xs.length) (hy : 0 < ys.length) (hbase : B ≤ w.heap.size)
    (h : ∀ w', Own w' B e k v (ys.take xs.length ++ xs.drop ys.length) → w.grownBy w' v.ownBlock → Below B w w' → wpList P ops Q rest (a.put o.dst (goInt (ys.take xs.length).length)) w') :
    wpList P ops Q (o :: rest) a w := by
  obtain ⟨ht, hinfo, hb8⟩ := he
  obtain ⟨i, hi, hz, hsi, hby⟩ := info_parts hinfo
  have hsz : (P.info? e).map (·.size) = some 1 := by rw [hi]; simp [hsi]
  obtain ⟨b, off, rfl, hb, hc⟩ := hr hy
  rcases hown.2 with ⟨rfl, h1⟩ | ⟨g, cap, cur, rfl, hbg, hg, hnc, hcm, hcs, htake⟩
  · omega
  · have hzl : (ys.take xs.length).length ≤ xs.length := by rw [List.length_take]; omega
    have hz0 : 0 < (ys.take xs.length).length := by rw [List.length_take]; omega
    have hdr : xs.drop ys.length = xs.drop (ys.take xs.length).length := by
      rw [List.length_take]
      by_cases hh : xs.length ≤ ys.length
      · rw [List.drop_of_length_le hh, List.drop_of_length_le (by omega)]
      · rw [Nat.min_eq_right (by omega)]
    rw [hdr] at h
    have hgz : ∀ j, j < (ys.take xs.length).length → (ys.take xs.length).getD j 0 = ys.getD j 0 := fun j hj => by
      rw [List.length_take] at hj
      rw [List.getD, List.getD, List.getElem?_take, if_pos (by omega)]
    have hmin : (ys.take xs.length).length = Nat.min ys.length xs.length := by rw [List.length_take]; exact Nat.min_comm _ _
    have hzy : (ys.take xs.length).length ≤ ys.length := by rw [List.length_take]; omega
    generalize ys.take xs.length = zs at *
    refine wpList_copy_own hgd d s t t ho e ht hsz g 0 xs.length cap ⟨b, off, none⟩ ys.length c hd hs cur e hg (zs.map (Value.int k)) (by rw [List.length_map]; exact hmin) ?_ (by simp; omega) (ints_one k zs) ?_
    · intro j u hu
      obtain ⟨hj, rfl⟩ := get_ints hu
      rw [add_plain, hgz j hj]
      exact hc j (by omega)
    · have hlen : (zs ++ xs.drop zs.length).length = xs.length := by simp; omega
      have hgrown : w.grownBy (w.setRow g (cur.toList.take 0 ++ (zs.map (Value.int k) ++ cur.toList.drop (0 + (zs.map (Value.int k)).length))).toArray) (some g) :=
        ⟨rfl, rfl, rfl, by simp [World.setRow], fun j _ hj => setRow_other w g j _ (fun e => hj (by rw [e]))⟩
      rw [show goInt (zs.map (Value.int k)).length = goInt zs.length by simp]
      refine h _ ?_ hgrown (below_of_grown hgrown hbase fun g' hg' => by simp at hg'; omega)
      refine ⟨by simp, .inr ⟨g, cap, _, by rw [hlen], hbg, setRow_heap w g _ _ e _ hg, by omega, hcm, ?_, ?_⟩⟩
      · simp; omega
      · rw [hlen]
        simp only [Nat.mul_one] at htake ⊢
        simp only [List.take_zero, List.nil_append, Nat.zero_add, List.length_map, List.map_append, List.map_drop]
        rw [List.take_append, List.length_map, List.take_of_length_le (by simp; omega), ← htake, List.drop_take]

def PWrite (s : Dv) (F : Int) (T : Nat) (x : Int) (bs : List Int) (r : Int × Dv) : Prop :=
  if x.tmod s.size ≠ 0 then r = (1, s) else if 0 ≤ x ∧ x ≤ T ∧ 0 ≤ (bs.length : Int) ∧ (bs.length : Int) ≤ T - x then WritesP s (F + (x.toNat / s.size : Nat)) bs r else r = (5, s)
/-- Behind k writes. -/
structure WGoing (I : Nat → Prop) (w0 w : World) (a mk mw : Nat) (s : Dv) (i : Int) (bs : List Int) (k : Nat) (A : Option Addr) : Prop where
  d : DvAt w I a mk mw (wrS s i bs k)
  t : TurnsIn (DSet a mk mw) w0 w
  ok : OkW s i bs k
  r : Holds w w0.heap.size .u8 A (bs.drop (k * s.size))

set_option maxRecDepth 100000 in
set_option maxHeartbeats 6400000 in
theorem pwrite_any (I : Nat → Prop) (p a mk mw : Nat) (F C : Int) (T : Nat) (s : Dv) (x : Int) (A : Option Addr) (bs : List Int) (c : Nat) (w : World) (hp : PartAt w p a F C) (h : DvAt w I a mk mw s) (hI : ∀ g, w.heap.size ≤ g → I g) (hl : Lies s F C T) (hx : -9223372036854775808 ≤ x ∧ x ≤ 9223372036854775807)
    (hbl : bs.length ≤ 1000000) (hbc : bs.length ≤ c) (hcm : c ≤ maxLen) (hbo : Octets bs) (hr : Holds w w.heap.size .u8 A bs) (hof : s.offs ≤ 100000000) (hwr : s.wr ≤ 100000000) :
    Calls Tryd.prog 54 #[.pointer (some ⟨p, 0, none⟩), .int .i64 x, .slice A bs.length c] w fun e w' => ∃ r, PWrite s F T x bs r ∧ e = .returned (.int .i64 r.1) ∧ DvAt w' I a mk mw r.2 ∧ TurnsIn (DSet a mk mw) w w' := by
  have GS := Lib.hid (size_any I a mk mw s w h)
  have x0 : w.cell? ⟨p, 0, none⟩ = some (.pointer (some ⟨a, 0, none⟩)) := hp.cell 0
  have hs1 := h.ok.s1
  have hs2 := h.ok.s2
  unfold PWrite
  by_cases hm : x.tmod s.size = 0
  · simp only [if_neg (not_not_intro hm)]
    have b0 : (x.tmod (s.size : Int) != 0) = false := by rw [hm]; rfl
    have hsz : ¬ s.size = 0 := by omega
    have GH := Lib.hid (has_any I p a mk mw F C T s x bs.length w hp h hl hx)
    by_cases hin : 0 ≤ x ∧ x ≤ (T : Int) ∧ 0 ≤ (bs.length : Int) ∧ (bs.length : Int) ≤ (T : Int) - x
    · rw [decide_eq_true hin] at GH
      obtain ⟨b, rfl⟩ : ∃ b : Nat, x = (b : Int) := ⟨x.toNat, by omega⟩
      simp only [if_pos hin, Int.toNat_natCast]
      have hT := hl.most h.ok
      have HL := Lib.hid hl
      have HD1 := Lib.hid (fun W (t : TurnsIn (DSet a mk mw) w W) => (Block.out hp t (h.not_cells hp (by decide)) : PartAt W p a F C))
      have HDB := Lib.hid h
      have HR := Lib.hid (fun W (t : TurnsIn (DSet a mk mw) w W) => h.holds t hr (Nat.le_refl _))
      have HI := Lib.hid hI
      have HOK := Lib.hid h.ok
      have hcnt : (s.count : Int) ≤ 1048576 := by have := h.ok.c2; omega
      have HFC := hl.fc
      have HF0 := hl.f0
      have hCS := hl.t
      have HNear := Lib.hid (fun k => wrS_near s (F + ((b / s.size : Nat) : Int)) bs k)
      obtain ⟨z, hz⟩ : ∃ z, s.size = z := ⟨_, rfl⟩
      have HZ := Lib.hid hz
      rw [hz] at hm b0 hsz hs1 hs2 GS hCS HNear ⊢
      obtain ⟨i0, hi0⟩ : ∃ i0, F + ((b / z : Nat) : Int) = i0 := ⟨_, rfl⟩
      rw [hi0] at HNear ⊢
      have HI0 := Lib.hid hi0
      clear hp h hr hI hl hx hz hi0
      go_enter Tryd.func54, Tryd.ntmps54
      go_wp2_with (first
        | (have _t := x0; go_at_call 57; (with_reducible refine GS.out.mono ?_); rintro e w1 ⟨rfl, rfl⟩; clear x0)
        | (go_at_call 76; (with_reducible refine GH.out.mono ?_); rintro e w1 ⟨rfl, k1, hk1⟩
           have T1 : TurnsIn (DSet a mk mw) w w1 := by rw [hk1]; exact (TurnsIn.refl _ w).drewN k1
           have D1 : DvAt w1 I a mk mw s := by rw [hk1]; exact HDB.out.below (below_draws (Below.refl _ _) k1)
           have x1 : w1.cell? ⟨p, 0, none⟩ = some (.pointer (some ⟨a, 0, none⟩)) := (HD1.out _ T1).cell 0
           clear hk1 GH))
      refine (size_any I a mk mw s _ D1).mono ?_
      rintro e w2 ⟨rfl, rfl⟩
      rw [HZ.out]
      go_wp2_with fail
      have HT1 := Lib.hid T1
      have HDD := Lib.hid D1
      clear T1 D1 x1
      go_loopw [1, 2] (fun q v wr => ∃ (P k : Nat) (A' : Option Addr) (c' : Nat), P = b + k * z ∧ k ≤ manyP z bs ∧ q = .int .i64 (P : Int) ∧ v = .slice A' (bs.drop (k * z)).length c' ∧ (bs.drop (k * z)).length ≤ c' ∧ c' ≤ maxLen ∧ WGoing I w wr a mk mw s i0 bs k A') (fun q _ _ => b + bs.length + z - (intOf q).toNat)
      case atStart => exact ⟨b, 0, A, c, by omega, Nat.zero_le _, rfl, by simp, by simpa using hbc, hcm, ⟨HDD.out, HT1.out, fun j hj => absurd hj (by omega), by rw [Nat.zero_mul]; exact HR.out _ HT1.out⟩⟩
      case round =>
        clear HDD HT1
        obtain ⟨P, k, A', c', hP, hk, rfl, rfl, hc1, hc2, G⟩ := hrel
        have hmany := manyP_iff (show 0 < z by omega) bs k
        have hdl : (bs.drop (k * z)).length = bs.length - k * z := List.length_drop
        have HPk := Lib.hid hP
        have HMy := Lib.hid hmany
        obtain ⟨R, hR⟩ : ∃ R, bs.drop (k * z) = R := ⟨_, rfl⟩
        rw [hR] at hc1 hdl ⊢
        have hHR : Holds wr w.heap.size .u8 A' R := by have := G.r; rwa [HZ.out, hR] at this
        by_cases hlt : 0 < R.length
        · have d0 : decide ((0 : Int) < (R.length : Int)) = true := decide_eq_true (by omega)
          have hkm : k < manyP z bs := hmany.2 (by omega)
          obtain ⟨Q, hQ⟩ : ∃ Q : Nat, P / z = Q := ⟨_, rfl⟩
          have hQk : Q = b / z + k := by rw [← hQ, hP, Nat.add_mul_div_right _ _ (by omega)]
          have hq11 : (P : Int).tdiv (z : Int) = (Q : Int) := by rw [← hQ]; exact (Int.ofNat_tdiv P z).symm
          have hPT : (Q : Int) < C := by
            have h1 : P / z * z ≤ P := Nat.div_mul_le_self _ _
            rw [hQ] at h1
            have h2 : ((Q * z : Nat) : Int) < C * (z : Int) := by omega
            rw [Int.natCast_mul] at h2
            exact Int.lt_of_mul_lt_mul_right h2 (by omega)
          obtain ⟨n, hn⟩ : ∃ n, (R.take z).length = n := ⟨_, rfl⟩
          have hn1 : n = min z R.length := by rw [← hn, List.length_take]
          have hch : R.take z ++ (List.replicate z (0 : Int)).drop R.length = chunkP z bs k := by
            unfold chunkP padB
            rw [hR, List.drop_replicate, hn]
            congr 2
            omega
          have HCH := Lib.hid hch
          have HN := Lib.hid hn
          obtain ⟨n1, n2, n3, n4⟩ := HNear.out k
          have hk6 : k ≤ 1000000 := by
            have : k * 1 ≤ k * z := Nat.mul_le_mul_left k (by omega)
            omega
          have GWR := Lib.hid (fun W gb (hd : DvAt W I a mk mw (wrS s i0 bs k)) (hsz : w.heap.size ≤ W.heap.size) (hh : Holds W W.heap.size .u8 (some ⟨gb, 0, none⟩) (chunkP z bs k)) => (by
            have := write_any I a mk mw (wrS s i0 bs k) (F + (Q : Int)) (some ⟨gb, 0, none⟩) (chunkP z bs k) z W hd (fun g hg => HI.out g (by omega)) (by omega) (by rw [chunkP_length]; omega) (chunkP_octets hbo k) hh (by omega) (by omega)
            have e1 : F + (Q : Int) = i0 + (k : Int) := by have := HI0.out; omega
            have e2 : (wrS s i0 bs k).write (F + (Q : Int)) (chunkP z bs k) = (errS s i0 bs k, wrS s i0 bs (k + 1)) := by
              rw [e1]
              have h := HZ.out
              subst h
              rfl
            rw [chunkP_length, e2] at this
            exact this : Calls Tryd.prog 12 #[.pointer (some ⟨a, 0, none⟩), .int .i64 (F + (Q : Int)), .slice (some ⟨gb, 0, none⟩) z z] W (Sec.Leaves I a mk mw W (wrS s i0 bs (k + 1)) (.int .i64 (errS s i0 bs k)))))
          obtain ⟨E, hEe⟩ : ∃ E, errS s i0 bs k = E := ⟨_, rfl⟩
          rw [hEe] at GWR
          have HEe := Lib.hid hEe
          clear hEe
          have HQk := Lib.hid hQk
          have HN1 := Lib.hid hn1
          clear hQk hn1
          have HG := Lib.hid G
          have hHR2 := hHR
          obtain ⟨gA, oA, rfl, hgA, -⟩ := hHR2 hlt
          have HDL := Lib.hid hdl
          have HRR := Lib.hid hR
          clear hP hmany hR G hdl
          go_wp2_with (first
            | (at_make; refine wpList_make_ints _ rfl _ _ _ rfl elem8 z z rfl rfl rfl rfl (Nat.le_refl _) (by omega) ?_; intro w3 own3 hb3 hz3
               have own3 : Own w3 w.heap.size 5 .u8 (.slice (some ⟨wr.heap.size, 0, none⟩) z z) (List.replicate z 0) := own3.mono HG.out.t.size
               have hwz := HG.out.t.size)
            | (have _t := own3; (refine wpList_copy_some rfl (.tmp 42) (.tmp 43) 22 rfl elem8 own3 rfl rfl (hHR.below (hb3.mono hwz)) (by rw [List.length_replicate]; omega) hlt (by omega) ?_); clear _t; intro w4 own4 g4 hb4
               rw [List.length_replicate, HCH.out] at own4
               rw [List.length_replicate, HN.out]))
          have Bw : Below wr.heap.size wr w4 := hb3.trans (below_of_grown g4 (Nat.le_of_lt hz3) (fun g hg => by simp [Value.ownBlock] at hg; omega))
          have HT4 : Hid (TurnsIn (DSet a mk mw) w w4) := Lib.hid (HG.out.t.trans (.ofNew Bw))
          have HP4 := Lib.hid (HD1.out _ HT4.out)
          have HD4 := Lib.hid ((HG.out.d.below Bw).below (below_draws (Below.refl _ _) 1))
          have hsz4 : w.heap.size ≤ w4.drew.heap.size := HT4.out.size
          have hh4 : Hid (Holds w4.drew w4.drew.heap.size .u8 (some ⟨wr.heap.size, 0, none⟩) (chunkP z bs k)) := Lib.hid (by
            obtain ⟨A9, c9, he9, -, -, hh9⟩ := own4.opened
            injection he9 with e1 e2 e3
            subst e1
            exact hh9)
          have HHR := Lib.hid hHR
          clear own4 own3 g4 hb4 hb3 hz3 hHR
          have hRn : n ≤ R.length ∧ 0 < n ∧ n ≤ z := by have := HN1.out; omega
          clear hlt
          refine wp_region_held_drew (S := (fun W => PartAt W p a F C)) (by kernel_rfl) HP4.out (fun hS => ?_)
          refine wpAnyH_take (i := 0) (oi := ⟨some 45, _, _, _, _, _⟩) (v := .pointer (some ⟨p, 0, none⟩)) rfl (by kernel_rfl) (by kernel_rfl) (by kernel_rfl) (fun _ _ _ h => h) (Or.inl ⟨by rfl, fun W hW => by go_simp⟩) hS ?_
          try simp only [Act.put, List.setIfInBounds_toArray, List.set_cons_zero, List.set_cons_succ]
          refine wpAnyH_take (i := 4) (oi := ⟨some 49, _, _, _, _, _⟩) (v := .pointer (some ⟨p, 0, none⟩)) rfl (by kernel_rfl) (by kernel_rfl) (by kernel_rfl) (fun _ _ _ h => h) (Or.inl ⟨by rfl, fun W hW => by go_simp⟩) hS ?_
          try simp only [Act.put, List.setIfInBounds_toArray, List.set_cons_zero, List.set_cons_succ]
          refine wpAnyH_take (i := 9) (oi := ⟨some 54, _, _, _, _, _⟩) (v := .int .i64 (P : Int)) rfl (by kernel_rfl) (by kernel_rfl) (by kernel_rfl) (fun _ _ _ h => h) (Or.inl ⟨by rfl, fun W hW => by go_simp⟩) hS ?_
          try simp only [Act.put, List.setIfInBounds_toArray, List.set_cons_zero, List.set_cons_succ]
          refine wpAnyH_take (i := 10) (oi := ⟨some 55, _, _, _, _, _⟩) (v := .int .i64 (z : Int)) rfl (by kernel_rfl) (by kernel_rfl) (by kernel_rfl) (fun _ _ _ h => h) (Or.inl ⟨by rfl, fun W hW => by go_simp⟩) hS ?_
          try simp only [Act.put, List.setIfInBounds_toArray, List.set_cons_zero, List.set_cons_succ]
          refine wpAnyH_take (i := 13) (oi := ⟨some 58, _, _, _, _, _⟩) (v := .slice (some ⟨wr.heap.size, 0, none⟩) z z) rfl (by kernel_rfl) (by kernel_rfl) (by kernel_rfl) (fun _ _ _ h => h) (Or.inl ⟨by rfl, fun W hW => by go_simp⟩) hS ?_
          try simp only [Act.put, List.setIfInBounds_toArray, List.set_cons_zero, List.set_cons_succ]
          refine wpAnyH_take (i := 1) (oi := ⟨some 46, _, _, _, _, _⟩) (v := .pointer (some ⟨p, 0, none⟩)) rfl (by kernel_rfl) (by kernel_rfl) (by kernel_rfl) (fun _ _ _ h => h) (Or.inl ⟨by rfl, fun W hW => by go_simp⟩) hS ?_
          try simp only [Act.put, List.setIfInBounds_toArray, List.set_cons_zero, List.set_cons_succ]
          refine wpAnyH_take (i := 5) (oi := ⟨some 50, _, _, _, _, _⟩) (v := .pointer (some ⟨p, 0, none⟩)) rfl (by kernel_rfl) (by kernel_rfl) (by kernel_rfl) (fun _ _ _ h => h) (Or.inl ⟨by rfl, fun W hW => by go_simp⟩) hS ?_
          try simp only [Act.put, List.setIfInBounds_toArray, List.set_cons_zero, List.set_cons_succ]
          refine wpAnyH_take (i := 11) (oi := ⟨some 56, _, _, _, _, _⟩) (v := .int .i64 (Q : Int)) rfl (by kernel_rfl) (by kernel_rfl) (by kernel_rfl) (fun _ _ _ h => h) (Or.inl ⟨by rfl, fun W hW => by go_simp; first | exact IntWalk.i64_in _ (by omega) | (rw [hq11]; exact IntWalk.i64_in _ (by omega))⟩) hS ?_
          try simp only [Act.put, List.setIfInBounds_toArray, List.set_cons_zero, List.set_cons_succ]
          refine wpAnyH_take (i := 2) (oi := ⟨some 47, _, _, _, _, _⟩) (v := .pointer (some ⟨p, 0, none⟩)) rfl (by kernel_rfl) (by kernel_rfl) (by kernel_rfl) (fun _ _ _ h => h) (Or.inl ⟨by rfl, fun W hW => by go_simp⟩) hS ?_
          try simp only [Act.put, List.setIfInBounds_toArray, List.set_cons_zero, List.set_cons_succ]
          refine wpAnyH_take (i := 6) (oi := ⟨some 51, _, _, _, _, _⟩) (v := .pointer (some ⟨p, 1, none⟩)) rfl (by kernel_rfl) (by kernel_rfl) (by kernel_rfl) (fun _ _ _ h => h) (Or.inl ⟨by rfl, fun W hW => by go_simp⟩) hS ?_
          try simp only [Act.put, List.setIfInBounds_toArray, List.set_cons_zero, List.set_cons_succ]
          refine wpAnyH_take (i := 3) (oi := ⟨some 48, _, _, _, _, _⟩) (v := .pointer (some ⟨a, 0, none⟩)) rfl (by kernel_rfl) (by kernel_rfl) (by kernel_rfl) (fun _ _ _ h => h) (Or.inl ⟨by rfl, fun W hW => by have q0 : W.cell? ⟨p, 0, none⟩ = some (.pointer (some ⟨a, 0, none⟩)) := Block.cell hW 0; have q1 : W.cell? ⟨p, 1, none⟩ = some (.int .i64 F) := Block.cell hW 1; go_simp⟩) hS ?_
          try simp only [Act.put, List.setIfInBounds_toArray, List.set_cons_zero, List.set_cons_succ]
          refine wpAnyH_take (i := 7) (oi := ⟨some 52, _, _, _, _, _⟩) (v := .pointer (some ⟨p, 1, none⟩)) rfl (by kernel_rfl) (by kernel_rfl) (by kernel_rfl) (fun _ _ _ h => h) (Or.inl ⟨by rfl, fun W hW => by go_simp⟩) hS ?_
          try simp only [Act.put, List.setIfInBounds_toArray, List.set_cons_zero, List.set_cons_succ]
          refine wpAnyH_take (i := 8) (oi := ⟨some 53, _, _, _, _, _⟩) (v := .int .i64 F) rfl (by kernel_rfl) (by kernel_rfl) (by kernel_rfl) (fun _ _ _ h => h) (Or.inl ⟨by rfl, fun W hW => by have q0 : W.cell? ⟨p, 0, none⟩ = some (.pointer (some ⟨a, 0, none⟩)) := Block.cell hW 0; have q1 : W.cell? ⟨p, 1, none⟩ = some (.int .i64 F) := Block.cell hW 1; go_simp⟩) hS ?_
          try simp only [Act.put, List.setIfInBounds_toArray, List.set_cons_zero, List.set_cons_succ]
          refine wpAnyH_take (i := 12) (oi := ⟨some 57, _, _, _, _, _⟩) (v := .int .i64 (F + (Q : Int))) rfl (by kernel_rfl) (by kernel_rfl) (by kernel_rfl) (fun _ _ _ h => h) (Or.inl ⟨by rfl, fun W hW => by go_simp; exact IntWalk.i64_in _ (by omega)⟩) hS ?_
          try simp only [Act.put, List.setIfInBounds_toArray, List.set_cons_zero, List.set_cons_succ]
          refine wpAnyH_ready (rs := [14]) (by kernel_rfl) (by simp) ?_
          refine AllReadyH.cons rfl (fun K hK => ?_) AllReadyH.nil
          go_simp
          go_at_call 12
          refine (GWR.out w4.drew wr.heap.size HD4.out hsz4 hh4.out).mono ?_
          rintro e x1 ⟨rfl, D5, T5⟩
          have HT5 := (HT4.out.drewN 1).trans T5
          have HP5 := HD1.out _ HT5
          refine hK.out _ _ HP5 (fun hS => ?_)
          clear hK K
          try simp only [Act.put, List.setIfInBounds_toArray, List.set_cons_zero, List.set_cons_succ]
          refine wpAnyH_ready (rs := [15]) (by kernel_rfl) (by simp) ?_
          refine AllReadyH.cons rfl (fun K hK => ?_) AllReadyH.nil
          go_simp
          refine hK.out _ _ HP5 (fun hS => ?_)
          clear hK K
          try simp only [Act.put, List.setIfInBounds_toArray, List.set_cons_zero, List.set_cons_succ]
          refine wpAnyH_done (by kernel_rfl) ?_ _
          have HHR5 : Holds x1 w.heap.size .u8 (some ⟨gA, oA, none⟩) R := HG.out.d.holds ((TurnsIn.ofNew Bw).drewN 1 |>.trans T5) HHR.out HG.out.t.size
          have HD5 := Lib.hid D5
          clear D5 T5 HP5
          have hHT5 := Lib.hid HT5
          clear HT5 HP4 HD4 hh4 hsz4 HHR GWR
          by_cases hE : E = 0
          · subst hE
            have HOK6 : Hid (OkW s i0 bs (k + 1)) := Lib.hid (fun j hj => by
              rcases Nat.lt_or_ge j k with h | h
              · exact HG.out.ok j h
              · obtain rfl : j = k := by omega
                exact HEe.out)
            have HK1 : Hid (k + 1 ≤ manyP z bs) := Lib.hid hkm
            have hnext : Hid ((bs.drop ((k + 1) * z)).length = R.length - n ∧ (n < R.length → bs.drop ((k + 1) * z) = R.drop n)) := Lib.hid (by
              have h1 := HN1.out
              have h2 := HDL.out
              have h3 : (k + 1) * z = k * z + z := by rw [Nat.add_mul, Nat.one_mul]
              refine ⟨by rw [List.length_drop, h3]; omega, fun h => ?_⟩
              have h4 : n = z := by omega
              rw [h3, ← List.drop_drop, HRR.out, h4])
            have hnc : (n : Int) ≤ (R.length : Int) := by omega
            have hR5 : Hid (∀ A'', (n < R.length → A'' = some ⟨gA, oA + n, none⟩) → Holds x1 w.heap.size .u8 A'' (bs.drop ((k + 1) * s.size))) := Lib.hid (fun A'' hA => by
              rw [HZ.out]
              intro hp0
              rw [hnext.out.1] at hp0
              rw [hnext.out.2 (by omega), hA (by omega)]
              have := HHR5.sub n (R.length - n) (by omega)
              rw [List.take_of_length_le (by rw [List.length_drop]; omega)] at this
              exact this (by rw [List.length_drop]; omega))
            clear HHR5
            have hw64 := Lib.hid (IntWalk.wrap64_in ((P : Int) + (z : Int)) (by have := HPk.out; have := HDL.out; omega))
            have HP6 : Hid (P + z = b + (k + 1) * z) := Lib.hid (by have := HPk.out; rw [Nat.add_mul, Nat.one_mul]; omega)
            have HPL : Hid (P < b + bs.length) := Lib.hid (by have := HPk.out; have := HDL.out; omega)
            have HC : Hid (R.length ≤ c' ∧ c' ≤ maxLen) := Lib.hid ⟨hc1, hc2⟩
            by_cases hcn : c' = n
            · have hRn2 : R.length = n := by omega
              go_wp2_with fail
              go_roundw
              case rel => exact ⟨P + z, k + 1, some ⟨gA, oA, none⟩, 0, HP6.out, HK1.out, by first | (rw [hw64.out, Int.natCast_add]; done) | (rw [hw64.out]; rfl), (by rw [hnext.out.1, hRn2, Nat.sub_self]), by rw [hnext.out.1, hRn2, Nat.sub_self]; exact Nat.le_refl _, Nat.zero_le _, HD5.out, hHT5.out, HOK6.out, hR5.out _ (fun h => absurd h (by omega))⟩
              case measure =>
                have h9 := HPL.out
                rw [hw64.out]
                simp only [intOf]
                omega
            · go_wp2_with fail
              go_roundw
              case rel => exact ⟨P + z, k + 1, some ⟨gA, oA + n, none⟩, c' - n, HP6.out, HK1.out, by first | (rw [hw64.out, Int.natCast_add]; done) | (rw [hw64.out]; rfl), by rw [hnext.out.1], by rw [hnext.out.1]; have := HC.out.1; omega, Nat.le_trans (Nat.sub_le _ _) HC.out.2, HD5.out, hHT5.out, HOK6.out, hR5.out _ (fun _ => rfl)⟩
              case measure =>
                have h9 := HPL.out
                rw [hw64.out]
                simp only [intOf]
                omega
          · have d1 : (E != 0) = true := by simpa using hE
            go_wp2_with fail
            go_ret
            exact ⟨(E, wrS s i0 bs (k + 1)), Or.inl ⟨k, by rw [HZ.out]; exact hkm, HG.out.ok, by rw [HEe.out]; exact hE, by rw [HEe.out]⟩, rfl, HD5.out, hHT5.out⟩
        · have hR0 : R.length = 0 := by omega
          have hkm : k = manyP z bs := by
            rcases Nat.lt_or_ge k (manyP z bs) with h | h
            · have := hmany.1 h
              omega
            · omega
          clear hHR hlt hdl hP hmany hR
          go_wp2_with fail
          go_ret
          refine ⟨(0, wrS s i0 bs k), Or.inr ⟨?_, ?_⟩, rfl, G.d, G.t⟩
          · rw [HZ.out, ← hkm]; exact G.ok
          · rw [HZ.out, ← hkm]
    · rw [decide_eq_false hin] at GH
      simp only [if_neg hin]
      have HD := Lib.hid h
      clear h hr hp hI hl
      go_enter Tryd.func54, Tryd.ntmps54
      go_wp2_with (first
        | (go_at_call 57; (with_reducible refine GS.out.mono ?_); rintro e w1 ⟨rfl, rfl⟩)
        | (go_at_call 76; (with_reducible refine GH.out.mono ?_); rintro e w1 ⟨rfl, k1, hk1⟩
           have B1 : Below w.heap.size w w1 := by rw [hk1]; exact below_draws (Below.refl _ _) k1
           clear hk1 GH))
      go_ret
      exact ⟨_, rfl, rfl, HD.out.below B1, .ofNew B1⟩
  · simp only [if_pos hm]
    have b0 : (x.tmod (s.size : Int) != 0) = true := by simpa using hm
    have hsz : ¬ s.size = 0 := by omega
    have HD := Lib.hid h
    clear h hr hp hI hl
    go_enter Tryd.func54, Tryd.ntmps54
    go_wp2_with (go_at_call 57; (with_reducible refine GS.out.mono ?_); rintro e w1 ⟨rfl, rfl⟩)
    go_ret
    exact ⟨_, rfl, rfl, HD.out, TurnsIn.refl _ _⟩
end Go.Proofs.YtpnodocjpedcmaaDoor.Pt

namespace Go.Proofs.YtpnodocjpedcmaaDoor.Pt
open Go.ChangeShapes Go.WideShapes Go.ChangeAt Go.RowKit Go.Proofs.YtpnodocjpedcmaaDoor.Kit Go.Proofs.YtpnodocjpedcmaaDoor.Sec

/-- Is a region there? -/
def IsThere (n : Int) (F C : Int) : Prop := 0 ≤ F ∧ 1 ≤ C ∧ C ≤ n ∧ F ≤ n - C
instance (n F C : Int) : Decidable (IsThere n F C) := by unfold IsThere; infer_instance

set_option maxRecDepth 100000 in
set_option maxHeartbeats 3200000 in
theorem open_any (I : Nat → Prop) (a mk mw : Nat) (F C : Int) (s : Dv) (w : World) (h : DvAt w I a mk mw s) (hF : -9223372036854775808 ≤ F ∧ F ≤ 9223372036854775807) (hC : -9223372036854775808 ≤ C ∧ C ≤ 9223372036854775807) :
    Calls Tryd.prog 48 #[.pointer (some ⟨a, 0, none⟩), .agg #[.int .i64 F, .int .i64 C]] w fun e w' => Below w.heap.size w w' ∧
      (IsThere s.count F C → ∃ p, w.heap.size ≤ p ∧ e = .returned (.tuple #[.pointer (some ⟨p, 0, none⟩), .int .i64 0]) ∧ PartAt w' p a F C) ∧ (¬ IsThere s.count F C → e = .returned (.tuple #[.pointer none, .int .i64 1])) := by
  have B0 : Below w.heap.size w (w.alloc (.cells #[.int .i64 F, .int .i64 C] 42)) := (Below.refl _ _).alloc (Nat.le_refl _) _
  have HD : Hid (∀ n, DvAt ((w.alloc (.cells #[.int .i64 F, .int .i64 C] 42)).drewN n) I a mk mw s) := Lib.hid (fun n => (h.below B0).below (below_draws (Below.refl _ _) n))
  have HB : Hid (∀ n, Below w.heap.size w ((w.alloc (.cells #[.int .i64 F, .int .i64 C] 42)).drewN n)) := Lib.hid (fun n => below_draws B0 n)
  have hc1 := h.ok.c1
  have hc2 := h.ok.c2
  unfold IsThere
  clear h B0
  cases h1 : decide (F < 0) <;> (try cases h2 : decide (C < 1)) <;> (try cases h3 : decide ((s.count : Int) < C)) <;> (try cases h4 : decide ((s.count : Int) - C < F))
  case false.false.false.false =>
    have hyes : Hid (0 ≤ F ∧ 1 ≤ C ∧ C ≤ (s.count : Int) ∧ F ≤ (s.count : Int) - C) := Lib.hid (by simp only [decide_eq_false_iff_not] at h1 h2 h3 h4; omega)
    have k2 : 1 ≤ C := by simp only [decide_eq_false_iff_not] at h2; omega
    have k3 : C ≤ (s.count : Int) := by simp only [decide_eq_false_iff_not] at h3; omega
    go_enter Tryd.func48, Tryd.ntmps48
    go_wp2_with fail
    go_quiet ((go_at_call 58; exact Calls.quiet_of_same ((count_any I a mk mw s _ (HD.out _)).mono fun _ _ h => ⟨h.1, h.2.symm⟩)))
    go_wp2_with fail
    go_ret2
    have hb := HB.out nq
    have hz : ((w.alloc (.cells #[.int .i64 F, .int .i64 C] 42)).drewN nq).heap.size = w.heap.size + 1 := by simp [World.drewN]
    refine ⟨hb.alloc hb.size _, fun _ => ⟨w.heap.size + 1, by omega, rfl, ?_⟩, fun h => absurd hyes.out h⟩
    have := Block.new ((w.alloc (.cells #[.int .i64 F, .int .i64 C] 42)).drewN nq) 139 #[.pointer (some ⟨a, 0, none⟩), .int .i64 F, .int .i64 C]
    rw [hz] at this
    exact this
  case false.false.false.true =>
    have hno : Hid (¬ (0 ≤ F ∧ 1 ≤ C ∧ C ≤ (s.count : Int) ∧ F ≤ (s.count : Int) - C)) := Lib.hid (by simp only [decide_eq_false_iff_not, decide_eq_true_eq] at *; omega)
    have k2 : 1 ≤ C := by simp only [decide_eq_false_iff_not] at h2; omega
    have k3 : C ≤ (s.count : Int) := by simp only [decide_eq_false_iff_not] at h3; omega
    go_enter Tryd.func48, Tryd.ntmps48
    go_wp2_with fail
    go_quiet ((go_at_call 58; exact Calls.quiet_of_same ((count_any I a mk mw s _ (HD.out _)).mono fun _ _ h => ⟨h.1, h.2.symm⟩)))
    go_wp2_with fail
    go_ret2
    exact ⟨HB.out nq, fun h => absurd h hno.out, fun _ => rfl⟩
  all_goals
    have hno : Hid (¬ (0 ≤ F ∧ 1 ≤ C ∧ C ≤ (s.count : Int) ∧ F ≤ (s.count : Int) - C)) := Lib.hid (by simp only [decide_eq_false_iff_not, decide_eq_true_eq] at *; omega)
    go_enter Tryd.func48, Tryd.ntmps48
    go_wp2_with fail
    go_quiet ((go_at_call 58; exact Calls.quiet_of_same ((count_any I a mk mw s _ (HD.out _)).mono fun _ _ h => ⟨h.1, h.2.symm⟩)))
    go_wp2_with fail
    go_ret2
    exact ⟨HB.out nq, fun h => absurd h hno.out, fun _ => rfl⟩
end Go.Proofs.YtpnodocjpedcmaaDoor.Pt

namespace Go.Proofs.YtpnodocjpedcmaaDoor.Kit
open Go.ChangeShapes Go.WideShapes Go.ChangeAt Go.RowKit

theorem step_store_arr {P : Program} {ops : Array Oper} {o : Oper} {a : Act} {w : World} {K : Act → World → Prop} {Q : Exit → Act → World → Prop} {E : Prop}
    (hgd : o.guard = none) (ty : TypeId) (x y : Operand) (ho : o.op = .store ty x y)
    {g : Nat} {t : TypeId} {k : IntKind} {xs ys : List Int} (h : Arr w g t k xs) (hx : a.eval x = .pointer (some ⟨g, 0, none⟩)) (hy : a.eval y = arrV k ys) (hl : ys.length = xs.length) (hi : (P.info? ty).map (·.size) = some ys.length)
    (hK : ∀ w', Arr w' g t k ys → w.grownBy w' (some g) → K (a.put o.dst undef) w') : if Region.wanted o (yielded ops a.tmps) = true then Oper.wp P o a w K Q else E := by
  have hw : Region.wanted o (yielded ops a.tmps) = true := by simp [Region.wanted, hgd]
  rw [if_pos hw]
  refine wp_store_mid ty x y ho g 0 (ys.map (Value.int k)).toArray hx hy (by simpa using h.there (by omega)) (by simpa using hi) (all_oneCell_toArray (ints_one k ys)) ?_
  refine hK _ ?_ (setCells_grown g _ 0 w)
  have := setCells_block (ys.map (Value.int k)) 0 w _ h (by simp; omega)
  unfold Arr
  have e : ((xs.map (Value.int k)).toArray.toList.take 0 ++ (ys.map (Value.int k) ++ (xs.map (Value.int k)).toArray.toList.drop (0 + (ys.map (Value.int k)).length))).toArray = (ys.map (Value.int k)).toArray := by
    simp [hl]
  rw [e] at this
  simpa using this

/-- A row that lies in memory is loaded as a whole. -/
theorem step_load_row {P : Program} {ops : Array Oper} {o : Oper} {a : Act} {w : World} {K : Act → World → Prop} {Q : Exit → Act → World → Prop} {E : Prop}
    (hw : Region.wanted o (yielded ops a.tmps) = true) (ty : TypeId) (x : Operand) (ho : o.op = .load ty x)
    (b f : Nat) (cs : List Value) (hx : a.eval x = .pointer (some ⟨b, f, none⟩)) (hc : w.rangeAt b f cs) {d : TypeDesc} (hu : P.underlying ty = some d) (hd : d.isRow = true) (hi : (P.info? ty).map (·.size) = some cs.length)
    (hK : K (a.put o.dst (.agg cs.toArray)) w) : if Region.wanted o (yielded ops a.tmps) = true then Oper.wp P o a w K Q else E := by
  rw [if_pos hw]
  exact wp_load_mid ty x ho b f hx cs d hc hu hd hi hK
end Go.Proofs.YtpnodocjpedcmaaDoor.Kit

namespace Go.Proofs.YtpnodocjpedcmaaDoor.Kit
open Go.ChangeShapes Go.WideShapes Go.ChangeAt Go.RowKit

/-- A row's slice. -/
def Rw.val (r : Rw) : Value := .slice r.A r.zs.length r.cap
/-- A row that may be. -/
def RwOk (w : World) (B : Nat) (r : Rw) : Prop := r.zs.length ≤ r.cap ∧ r.cap ≤ maxLen ∧ Octets r.zs ∧ Holds w B .u8 r.A r.zs

theorem RwOk.below {w w' : World} {B : Nat} {r : Rw} (h : RwOk w B r) (hb : Below B w w') : RwOk w' B r := ⟨h.1, h.2.1, h.2.2.1, h.2.2.2.below hb⟩
theorem RwOk.more {w : World} {B B' : Nat} {r : Rw} (h : RwOk w B r) (hb : B ≤ B') : RwOk w B' r := ⟨h.1, h.2.1, h.2.2.1, h.2.2.2.more hb⟩
theorem RwOk.on {w w' : World} {r : Rw} (h : RwOk w w.heap.size r) (hb : Below w.heap.size w w') : RwOk w' w'.heap.size r := (h.below hb).more hb.size
theorem RwOk.arr {w : World} {g : Nat} {t : TypeId} {xs : List Int} (h : Arr w g t .u8 xs) (ho : Octets xs) (hl : xs.length ≤ maxLen) : RwOk w w.heap.size ⟨some ⟨g, 0, none⟩, xs.length, xs⟩ :=
  ⟨Nat.le_refl _, hl, ho, h.holds_all⟩

theorem rows_laid {w : World} {t : TypeId} (rs : List Rw) (h : ∀ r ∈ rs, RwOk w w.heap.size r) :
    HoldsW (w.alloc (.cells (rs.map Rw.val).toArray t)) (w.alloc (.cells (rs.map Rw.val).toArray t)).heap.size (some ⟨w.heap.size, 0, none⟩) rs := by
  have bk := Block.new w t (rs.map Rw.val).toArray
  have hb := (Below.refl w.heap.size w).alloc (Nat.le_refl _) (.cells (rs.map Rw.val).toArray t)
  intro _
  refine ⟨w.heap.size, 0, rfl, by simp, fun i r hi => ?_⟩
  have hr := (h r (List.mem_of_getElem? hi)).on hb
  refine ⟨_, ⟨rfl, hr⟩, rfl, fun j v hj => ?_⟩
  have hj0 : j = 0 := by
    rcases j with _ | j
    · rfl
    · simp at hj
  subst hj0
  have hv : v = r.val := by simpa [Rw.val] using hj.symm
  subst hv
  rw [Nat.zero_add, Nat.mul_one, Nat.add_zero, bk.cell i]
  simp [hi]
end Go.Proofs.YtpnodocjpedcmaaDoor.Kit

namespace Go.Proofs.YtpnodocjpedcmaaDoor.Kit
open Go.ChangeShapes Go.WideShapes Go.ChangeAt Go.RowKit

theorem res_new (w : World) (t : TypeId) : Arr (w.alloc (.cells ((List.replicate 32 (0 : Int)).map (Value.int .u8)).toArray t)) w.heap.size t .u8 (List.replicate 32 0) := Arr.new w _ _ _
theorem arr_kept {w w' : World} {g : Nat} {t : TypeId} {k : IntKind} {xs : List Int} {o : Obj} (h : Arr w g t k xs) (g9 : (w.alloc o).grownBy w' (some w.heap.size)) : Arr w' g t k xs :=
  Arr.grown (h.alloc o) g9 (by intro e; injection e with e; have := Arr.lt h; omega)
theorem below_fill {B : Nat} {w0 w w' : World} {o : Obj} (h : Below B w0 w) (hB : B ≤ w.heap.size) (g9 : (w.alloc o).grownBy w' (some w.heap.size)) : Below B w0 w' :=
  (h.alloc hB o).trans (below_of_grown g9 (by simp; omega) fun b hb => by injection hb with hb; omega)
theorem Holds.prefix_ {w : World} {B : Nat} {k : IntKind} {A : Option Addr} {xs : List Int} (h : Holds w B k A xs) (n : Nat) : Holds w B k A (xs.take n) := by
  intro hx
  rw [List.length_take] at hx
  obtain ⟨b, off, e, hb, hc⟩ := h (by omega)
  refine ⟨b, off, e, hb, fun j hj => ?_⟩
  rw [List.length_take] at hj
  rw [hc j (by omega)]
  simp [List.getD, List.getElem?_take, show j < n by omega]
theorem Holds.on {w w' : World} {k : IntKind} {A : Option Addr} {xs : List Int} (h : Holds w w.heap.size k A xs) (hb : Below w.heap.size w w') : Holds w' w'.heap.size k A xs := (h.below hb).more hb.size
theorem Holds.fill {w w' : World} {k : IntKind} {A : Option Addr} {xs : List Int} {o : Obj} (h : Holds w w.heap.size k A xs) (g9 : (w.alloc o).grownBy w' (some w.heap.size)) : Holds w' w'.heap.size k A xs := h.on (below_fill (Below.refl _ _) (Nat.le_refl _) g9)

/-- Results: a whole array out of its block, and a plain value. -/
theorem results_row_tmp {P : Program} {fn : Func} {p q : Tmp} {ty : TypeId} (h : fn.results = #[.cell p ty, .tmp q]) (tmps : Array Value) (w : World) (g : Nat) (t : TypeId) (cs : Array Value) (fr : Nat × Nat) (d : TypeDesc)
    (hp : tmps.getD p undef = .pointer (some ⟨g, 0, none⟩)) (hg : w.heap[g]? = some (.cells cs t fr)) (v : Value) (hq : tmps.getD q undef = v)
    (hu : P.underlying ty = some d) (hd : (match d with | .struct _ | .array _ _ => true | _ => false) = true) (hi : (P.info? ty).map (·.size) = some cs.size) :
    (results fn tmps).run P w = .ok (.tuple #[.agg cs, v]) w := by
  have hp' : tmps[p]?.getD undef = .pointer (some ⟨g, 0, none⟩) := by simpa using hp
  have hq' : tmps[q]?.getD undef = v := by simpa using hq
  simp [results, h, hp', hq', asAddr, run_loadVar_row w g t ty cs fr d hg hu hd hi]
end Go.Proofs.YtpnodocjpedcmaaDoor.Kit

namespace Go.Proofs.YtpnodocjpedcmaaDoor.Pt
open Go.ChangeShapes Go.WideShapes Go.ChangeAt Go.RowKit Go.Proofs.YtpnodocjpedcmaaDoor.Kit Go.Proofs.YtpnodocjpedcmaaDoor.Sec

/-- A sector's part of a text. -/
theorem chunk_cut (bs : List Int) (z k : Nat) : (strOfNums bs).extract (k * z) (min bs.length ((k + 1) * z)) = strOfNums ((bs.drop (k * z)).take z) := by
  rw [str_cut]
  congr 1
  have h : (k + 1) * z = k * z + z := by rw [Nat.add_mul, Nat.one_mul]
  rw [h]
  by_cases hl : bs.length ≤ k * z + z
  · rw [Nat.min_eq_left hl, List.take_of_length_le (by rw [List.length_drop]; exact Nat.le_refl _), List.take_of_length_le (by rw [List.length_drop]; omega)]
  · rw [Nat.min_eq_right (by omega), Nat.add_sub_cancel_left]
/-- It is filled up with zeros. -/
theorem chunk_fill (bs : List Int) (z k : Nat) : strOfNums ((bs.drop (k * z)).take z) ++ strOfNums (List.replicate (z - ((bs.drop (k * z)).take z).length) 0) = strOfNums (chunkP z bs k) := by
  rw [str_join]
  rfl
/-- A range's piece of a sector: from lo to hi of the region, the sector beginning at i * z. -/
theorem piece_cut {s : Dv} {F : Int} {p m : Nat} {xs : List Int} (hx : xs.length = s.size) (h : secP s F p = (xs, 0)) (hm : m ≤ s.size - p % s.size) : (strOfNums xs).extract (p % s.size) (p % s.size + m) = strOfNums (rowP s F p m) := by
  rw [str_cut, Nat.add_sub_cancel_left, piece hx h hm]
theorem row_join (s : Dv) (F : Int) (a k m : Nat) : strOfNums (rowP s F a k) ++ strOfNums (rowP s F (a + k) m) = strOfNums (rowP s F a (k + m)) := by
  rw [str_join, rowP_add]
end Go.Proofs.YtpnodocjpedcmaaDoor.Pt

namespace Go.Proofs.YtpnodocjpedcmaaDoor.Pt
open Go.ChangeShapes Go.WideShapes Go.ChangeAt Go.RowKit Go.Proofs.YtpnodocjpedcmaaDoor.Kit Go.Proofs.YtpnodocjpedcmaaDoor.Sec

end Go.Proofs.YtpnodocjpedcmaaDoor.Pt

namespace Go.Proofs.YtpnodocjpedcmaaDoor.Sha
open Go.ChangeShapes Go.WideShapes Go.ChangeAt Go.RowKit Go.Proofs.YtpnodocjpedcmaaDoor.Kit

/-- The sum of two words. -/
def add32 (a b : Int) : Int := (a + b) % 4294967296
theorem add32_bd (a b : Int) : W32 (add32 a b) := by unfold add32 W32; omega
theorem add32_wrap (a b : Int) : IntKind.u32.wrap (a + b) = add32 a b := by rw [IntKind.wrap_u32]; rfl
theorem add32_comm (a b : Int) : add32 a b = add32 b a := by unfold add32; rw [Int.add_comm]

theorem add32_4 (a b c d : Int) : add32 (add32 (add32 a b) c) d = (a + b + c + d) % 4294967296 := by unfold add32; omega
theorem add32_5 (a b c d e : Int) : add32 (add32 (add32 (add32 a b) c) d) e = (a + b + c + d + e) % 4294967296 := by unfold add32; omega

def sig0 (x : Int) : Int := bits BinOp.xor .u32 (bits BinOp.xor .u32 (rot x 7) (rot x 18)) (x / 8)
def sig1 (x : Int) : Int := bits BinOp.xor .u32 (bits BinOp.xor .u32 (rot x 17) (rot x 19)) (x / 1024)
def sum0 (x : Int) : Int := bits BinOp.xor .u32 (bits BinOp.xor .u32 (rot x 2) (rot x 13)) (rot x 22)
def sum1 (x : Int) : Int := bits BinOp.xor .u32 (bits BinOp.xor .u32 (rot x 6) (rot x 11)) (rot x 25)

/-- The i-th word of bytes. -/
def wordB (bs : List Int) (i : Nat) : Int :=
  bits BinOp.or .u32 (bits BinOp.or .u32 (bits BinOp.or .u32 (bs.getD (4 * i) 0 * 16777216) (bs.getD (4 * i + 1) 0 * 65536)) (bs.getD (4 * i + 2) 0 * 256)) (bs.getD (4 * i + 3) 0)
def mixW (l : List Int) (n : Nat) : Int := add32 (add32 (add32 (l.getD (n - 16) 0) (sig0 (l.getD (n - 15) 0))) (l.getD (n - 7) 0)) (sig1 (l.getD (n - 2) 0))
/-- The first n words of a block. -/
def sched (bs : List Int) : Nat → List Int
  | 0 => []
  | n + 1 => sched bs n ++ [if n < 16 then wordB bs n else mixW (sched bs n) n]

theorem sched_length (bs : List Int) : ∀ n, (sched bs n).length = n
  | 0 => rfl
  | n + 1 => by rw [sched, List.length_append, sched_length bs n]; rfl

theorem sched_bd (bs : List Int) : ∀ n, ∀ x ∈ sched bs n, W32 x
  | 0, x, h => by simp [sched] at h
  | n + 1, x, h => by
    rw [sched] at h
    rcases List.mem_append.1 h with h | h
    · exact sched_bd bs n x h
    · obtain rfl := List.mem_singleton.1 h
      split
      · exact or_bd _ _
      · exact add32_bd _ _

theorem sched_get (bs : List Int) (n i : Nat) : W32 ((sched bs n).getD i 0) := by
  rw [List.getD_eq_getElem?_getD]
  cases h : (sched bs n)[i]? with
  | none => unfold W32; simp
  | some x => exact sched_bd bs n x (List.mem_of_getElem? h)

/-- A list, with zeros up to 64. -/
def padZ (l : List Int) : List Int := l ++ List.replicate (64 - l.length) 0
theorem padZ_length {l : List Int} (h : l.length ≤ 64) : (padZ l).length = 64 := by unfold padZ; simp; omega
theorem padZ_nil : padZ [] = List.replicate 64 0 := rfl
theorem padZ_full {l : List Int} (h : l.length = 64) : padZ l = l := by unfold padZ; rw [h]; simp
theorem padZ_get {l : List Int} {i : Nat} (h : i < l.length) : (padZ l)[i]?.getD 0 = l.getD i 0 := by
  unfold padZ
  rw [List.getElem?_append_left h]
  rfl
theorem padZ_set {l : List Int} {x : Int} (h : l.length < 64) : (padZ l).set l.length x = padZ (l ++ [x]) := by
  unfold padZ
  obtain ⟨k, hk⟩ : ∃ k, 64 - l.length = k + 1 := ⟨63 - l.length, by omega⟩
  rw [hk, List.replicate_succ, List.set_append, if_neg (by omega), Nat.sub_self, List.set_cons_zero, List.length_append, List.length_singleton, show 64 - (l.length + 1) = k by omega, List.append_assoc]
  rfl

theorem sched_set (bs : List Int) (n : Nat) (h : n < 64) : (padZ (sched bs n)).set n (if n < 16 then wordB bs n else mixW (sched bs n) n) = padZ (sched bs (n + 1)) := by
  have := padZ_set (l := sched bs n) (x := if n < 16 then wordB bs n else mixW (sched bs n) n) (by rw [sched_length]; omega)
  rw [sched_length] at this
  rw [this, sched]

/-- l is the first n words. -/
structure IsSched (bs : List Int) (n : Nat) (l : List Int) : Prop where
  out : l = sched bs n
theorem IsSched.length {bs : List Int} {n : Nat} {l : List Int} (h : IsSched bs n l) : l.length = n := by rw [h.out, sched_length]
theorem IsSched.get {bs : List Int} {n : Nat} {l : List Int} (h : IsSched bs n l) (i : Nat) : W32 (l.getD i 0) := by rw [h.out]; exact sched_get bs n i
theorem IsSched.next {bs : List Int} {n : Nat} {l : List Int} (h : IsSched bs n l) (hn : n < 64) :
    ∃ l', IsSched bs (n + 1) l' ∧ (padZ l).set n (if n < 16 then wordB bs n else mixW l n) = padZ l' :=
  ⟨_, ⟨rfl⟩, by have := sched_set bs n hn; rw [← h.out] at this; exact this⟩

/-- One round over a state of eight words. -/
def roundS (s : List Int) (k x : Int) : List Int :=
  let t := add32 (add32 (add32 (add32 (s.getD 7 0) (sum1 (s.getD 4 0))) (picks (s.getD 4 0) (s.getD 5 0) (s.getD 6 0))) k) x
  let u := add32 (sum0 (s.getD 0 0)) (most (s.getD 0 0) (s.getD 1 0) (s.getD 2 0))
  [add32 t u, s.getD 0 0, s.getD 1 0, s.getD 2 0, add32 (s.getD 3 0) t, s.getD 4 0, s.getD 5 0, s.getD 6 0]

def cubesL : List Int := [0x428a2f98, 0x71374491, 0xb5c0fbcf, 0xe9b5dba5, 0x3956c25b, 0x59f111f1, 0x923f82a4, 0xab1c5ed5, 0xd807aa98, 0x12835b01, 0x243185be, 0x550c7dc3, 0x72be5d74, 0x80deb1fe, 0x9bdc06a7, 0xc19bf174, 0xe49b69c1, 0xefbe4786, 0x0fc19dc6, 0x240ca1cc, 0x2de92c6f, 0x4a7484aa, 0x5cb0a9dc, 0x76f988da, 0x983e5152, 0xa831c66d, 0xb00327c8, 0xbf597fc7, 0xc6e00bf3, 0xd5a79147, 0x06ca6351, 0x14292967, 0x27b70a85, 0x2e1b2138, 0x4d2c6dfc, 0x53380d13, 0x650a7354, 0x766a0abb, 0x81c2c92e, 0x92722c85, 0xa2bfe8a1, 0xa81a664b, 0xc24b8b70, 0xc76c51a3, 0xd192e819, 0xd6990624, 0xf40e3585, 0x106aa070, 0x19a4c116, 0x1e376c08, 0x2748774c, 0x34b0bcb5, 0x391c0cb3, 0x4ed8aa4a, 0x5b9cca4f, 0x682e6ff3, 0x748f82ee, 0x78a5636f, 0x84c87814, 0x8cc70208, 0x90befffa, 0xa4506ceb, 0xbef9a3f7, 0xc67178f2]

/-- The state behind n rounds. -/
def roundsS (ws : List Int) : Nat → List Int → List Int
  | 0, s => s
  | n + 1, s => roundS (roundsS ws n s) (cubesL.getD n 0) (ws.getD n 0)

/-- Eight words. -/
def St8 (s : List Int) : Prop := s.length = 8 ∧ ∀ x ∈ s, W32 x

theorem St8.open_ {s : List Int} (h : St8 s) : ∃ a b c d e f g i : Int, s = [a, b, c, d, e, f, g, i] ∧ W32 a ∧ W32 b ∧ W32 c ∧ W32 d ∧ W32 e ∧ W32 f ∧ W32 g ∧ W32 i := by
  obtain ⟨hl, hb⟩ := h
  match s, hl with
  | [a, b, c, d, e, f, g, i], _ => exact ⟨a, b, c, d, e, f, g, i, rfl, hb a (by simp), hb b (by simp), hb c (by simp), hb d (by simp), hb e (by simp), hb f (by simp), hb g (by simp), hb i (by simp)⟩

theorem roundS_st {s : List Int} (h : St8 s) (k x : Int) : St8 (roundS s k x) := by
  obtain ⟨a, b, c, d, e, f, g, i, rfl, h1, h2, h3, h4, h5, h6, h7, h8⟩ := h.open_
  refine ⟨rfl, fun y hy => ?_⟩
  simp only [roundS, List.mem_cons, List.not_mem_nil, or_false] at hy
  rcases hy with rfl | rfl | rfl | rfl | rfl | rfl | rfl | rfl
  · exact add32_bd _ _
  · exact h1
  · exact h2
  · exact h3
  · exact add32_bd _ _
  · exact h5
  · exact h6
  · exact h7

theorem roundsS_st (ws : List Int) {s : List Int} (h : St8 s) : ∀ n, St8 (roundsS ws n s)
  | 0 => h
  | n + 1 => roundS_st (roundsS_st ws h n) _ _

/-- A state, mixed with a block of 64 bytes. -/
def mixS (s bs : List Int) : List Int := List.zipWith add32 s (roundsS (sched bs 64) 64 s)

theorem mixS_st {s : List Int} (bs : List Int) (h : St8 s) : St8 (mixS s bs) := by
  obtain ⟨a, b, c, d, e, f, g, i, rfl, _⟩ := h.open_
  have h2 := roundsS_st (sched bs 64) h 64
  unfold mixS
  obtain ⟨a', b', c', d', e', f', g', i', hr, _⟩ := h2.open_
  rw [hr]
  refine ⟨rfl, fun y hy => ?_⟩
  simp only [List.zipWith_cons_cons, List.zipWith_nil_left, List.mem_cons, List.not_mem_nil, or_false] at hy
  rcases hy with rfl | rfl | rfl | rfl | rfl | rfl | rfl | rfl <;> exact add32_bd _ _

def ivL : List Int := [0x6a09e667, 0xbb67ae85, 0x3c6ef372, 0xa54ff53a, 0x510e527f, 0x9b05688c, 0x1f83d9ab, 0x5be0cd19]

/-- The state behind n blocks. -/
def foldN : Nat → List Int → List Int → List Int
  | 0, s, _ => s
  | n + 1, s, bs => foldN n (mixS s (bs.take 64)) (bs.drop 64)

theorem foldN_st : ∀ (n : Nat) {s : List Int} (bs : List Int), St8 s → St8 (foldN n s bs)
  | 0, _, _, h => h
  | n + 1, _, bs, h => foldN_st n (bs.drop 64) (mixS_st _ h)

theorem foldN_add : ∀ (m n : Nat) (s bs : List Int), foldN (m + n) s bs = foldN n (foldN m s bs) (bs.drop (64 * m))
  | 0, n, s, bs => by simp [foldN]
  | m + 1, n, s, bs => by
    rw [show m + 1 + n = (m + n) + 1 by omega, foldN, foldN_add m n, foldN, List.drop_drop, show 64 + 64 * m = 64 * (m + 1) by omega]

theorem foldN_next (n : Nat) (s bs : List Int) : foldN (n + 1) s bs = mixS (foldN n s bs) ((bs.drop (64 * n)).take 64) := foldN_add n 1 s bs

/-- What stands behind the blocks doesn't count. -/
theorem foldN_app : ∀ (n : Nat) (s x y : List Int), 64 * n ≤ x.length → foldN n s (x ++ y) = foldN n s x
  | 0, _, _, _, _ => rfl
  | n + 1, s, x, y, h => by
    rw [foldN, foldN, List.take_append_of_le_length (by omega), List.drop_append_of_le_length (by omega), foldN_app n _ _ _ (by simp; omega)]
end Go.Proofs.YtpnodocjpedcmaaDoor.Sha

namespace Go.Proofs.YtpnodocjpedcmaaDoor.Sha
open Go.ChangeShapes Go.WideShapes Go.ChangeAt Go.RowKit Go.Proofs.YtpnodocjpedcmaaDoor.Kit

def Z64 : Array Value := #[.int .u32 0, .int .u32 0, .int .u32 0, .int .u32 0, .int .u32 0, .int .u32 0, .int .u32 0, .int .u32 0, .int .u32 0, .int .u32 0, .int .u32 0, .int .u32 0, .int .u32 0, .int .u32 0, .int .u32 0, .int .u32 0, .int .u32 0, .int .u32 0, .int .u32 0, .int .u32 0, .int .u32 0, .int .u32 0, .int .u32 0, .int .u32 0, .int .u32 0, .int .u32 0, .int .u32 0, .int .u32 0, .int .u32 0, .int .u32 0, .int .u32 0, .int .u32 0, .int .u32 0, .int .u32 0, .int .u32 0, .int .u32 0, .int .u32 0, .int .u32 0, .int .u32 0, .int .u32 0, .int .u32 0, .int .u32 0, .int .u32 0, .int .u32 0, .int .u32 0, .int .u32 0, .int .u32 0, .int .u32 0, .int .u32 0, .int .u32 0, .int .u32 0, .int .u32 0, .int .u32 0, .int .u32 0, .int .u32 0, .int .u32 0, .int .u32 0, .int .u32 0, .int .u32 0, .int .u32 0, .int .u32 0, .int .u32 0, .int .u32 0, .int .u32 0]
theorem z64_eq : ((List.replicate 64 (0 : Int)).map (Value.int .u32)).toArray = Z64 := rfl

theorem getD_octet {xs : List Int} (h : Octets xs) (j : Nat) : 0 ≤ xs.getD j 0 ∧ xs.getD j 0 ≤ 255 := by
  rw [List.getD_eq_getElem?_getD]
  exact h.at_ j

theorem arr64 (W : World) : Arr (W.alloc (.cells Z64 166)) W.heap.size 166 .u32 (List.replicate 64 0) := by
  have := Arr.new W 166 .u32 (List.replicate 64 0)
  rw [z64_eq] at this
  exact this

set_option maxRecDepth 100000 in
set_option maxHeartbeats 3200000 in
theorem words_any (A : Option Addr) (bs : List Int) (c : Nat) (w : World) (hl : bs.length = 64) (hc : 64 ≤ c) (hm : c ≤ maxLen) (ho : Octets bs) (hr : Holds w w.heap.size .u8 A bs) :
    Calls Tryd.prog 103 #[.slice A 64 c] w fun e w' => e = .returned (arrV .u32 (sched bs 64)) ∧ Below w.heap.size w w' := by
  have hb0 : Below w.heap.size w ((w.alloc (.cells Z64 166)).alloc (.cells Z64 166)) := ((Below.refl _ _).alloc (Nat.le_refl _) _).alloc (by simp) _
  have a2 : Arr ((w.alloc (.cells Z64 166)).alloc (.cells Z64 166)) w.heap.size 166 .u32 (List.replicate 64 0) := (arr64 w).alloc _
  have a3 : Arr ((w.alloc (.cells Z64 166)).alloc (.cells Z64 166)) (w.heap.size + 1) 166 .u32 (padZ (sched bs 0)) := by
    have := arr64 (w.alloc (.cells Z64 166))
    rw [show (w.alloc (.cells Z64 166)).heap.size = w.heap.size + 1 by simp] at this
    exact this
  obtain ⟨b, off, rfl, hb, hcs⟩ := hr (by omega)
  unfold maxLen at hm
  go_enter Tryd.func103, Tryd.ntmps103
  go_wp2_with fail
  change Code.wp _ _ _ _ ((w.alloc (.cells Z64 166)).alloc (.cells Z64 166))
  generalize (w.alloc (.cells Z64 166)).alloc (.cells Z64 166) = w0 at *
  go_loopw [11] (fun s wx => ∃ i : Nat, i ≤ 16 ∧ s = .int .i64 i ∧ Arr wx (w.heap.size + 1) 166 .u32 (padZ (sched bs i)) ∧ Arr wx w.heap.size 166 .u32 (List.replicate 64 0) ∧ Below w.heap.size w wx) (fun s _ => 16 - (intOf s).toNat)
  case atStart => exact ⟨0, by omega, rfl, a3, a2, hb0⟩
  case round =>
    obtain ⟨i, hi, rfl, k3, k2, hbx⟩ := hrel
    by_cases hlt : i < 16
    · have d := fun j (hj : 4 * i + j < bs.length) => (hbx.cell (p := ⟨b, off + (4 * i + j), none⟩) hb).trans (hcs (4 * i + j) hj)
      have d0 := d 0 (by omega)
      have d1 := d 1 (by omega)
      have d2 := d 2 (by omega)
      have d3 := d 3 (by omega)
      rw [← Nat.add_assoc] at d0 d1 d2 d3
      rw [Nat.add_zero, Nat.add_zero] at d0
      have hsl : 4 * i + 4 - 4 * i = 4 := by omega
      have hix : (i : Int) < 64 := by omega
      have hi0 : (0 : Int) ≤ (i : Int) := by omega
      have k3d : Arr wr.drew (w.heap.size + 1) 166 .u32 (padZ (sched bs i)) := k3
      have k2d : Arr wr.drew w.heap.size 166 .u32 (List.replicate 64 0) := k2
      have hbd : Below w.heap.size w wr.drew := below_draws hbx 1
      have e3 := k3d.cell (i := i) (by rw [padZ_length (by rw [sched_length]; omega)]; omega)
      have z3 := k3d.frozen i
      have y0 := getD_octet ho (4 * i)
      have y1 := getD_octet ho (4 * i + 1)
      have y2 := getD_octet ho (4 * i + 2)
      have y3 := getD_octet ho (4 * i + 3)
      have hset : (padZ (sched bs i)).set i (wordB bs i) = padZ (sched bs (i + 1)) := by
        have := padZ_set (l := sched bs i) (x := wordB bs i) (by rw [sched_length]; omega)
        rw [sched_length] at this
        rw [this, sched, if_pos hlt]
      unfold wordB at hset
      generalize bs.getD (4 * i) 0 = x0 at *
      generalize bs.getD (4 * i + 1) 0 = x1 at *
      generalize bs.getD (4 * i + 2) 0 = x2 at *
      generalize bs.getD (4 * i + 3) 0 = x3 at *
      have HS := Lib.hid hset
      clear d hset
      go_wp2_with fail
      go_still_tail 24, (by kernel_rfl)
      change wpList _ _ _ _ _ wr.drew
      clear k2 k3 hbx
      generalize wr.drew = w2 at *
      go_wp2_with fail
      have k9 := k3d.set_ i (bits BinOp.or .u32 (bits BinOp.or .u32 (bits BinOp.or .u32 (x0 * 16777216) (x1 * 65536)) (x2 * 256)) x3)
      rw [HS.out] at k9
      go_roundw
      case rel => exact ⟨i + 1, by omega, by go_num, k9, k2d.far (by simp) _, hbd.setCell (by simp) _⟩
      case measure => simp [intOf] <;> omega
    · obtain rfl : i = 16 := by omega
      go_wp2_with fail
      rw [show ((16 : Nat) : Int) = 16 from rfl]
      clear a3 a2 hb0
      go_loopw [46] (fun s wx => ∃ (i : Nat) (l : List Int), i ≤ 48 ∧ s = .int .i64 i ∧ IsSched bs (i + 16) l ∧ Arr wx (w.heap.size + 1) 166 .u32 (padZ l) ∧ Arr wx w.heap.size 166 .u32 (List.replicate 64 0) ∧ Below w.heap.size w wx) (fun s _ => 48 - (intOf s).toNat)
      case atStart => exact ⟨0, _, by omega, rfl, ⟨rfl⟩, k3, k2, hbx⟩
      case round =>
        clear k3 k2 hbx
        obtain ⟨i, l, hi, rfl, hl, k3, k2, hbx⟩ := hrel
        by_cases hlt : i < 48
        · have hlen : (padZ l).length = 64 := padZ_length (by rw [hl.length]; omega)
          have hg := fun j (hj : j < i + 16) => padZ_get (l := l) (i := j) (by rw [hl.length]; exact hj)
          have hx := hl.get (i + 1)
          have hy := hl.get (i + 14)
          obtain ⟨l', hl', hset⟩ := hl.next (by omega)
          rw [if_neg (by omega)] at hset
          unfold mixW at hset
          rw [show i + 16 - 16 = i by omega, show i + 16 - 15 = i + 1 by omega, show i + 16 - 7 = i + 9 by omega, show i + 16 - 2 = i + 14 by omega] at hset
          have e0 := k3.cell (i := i) (by omega)
          have e1 := k3.cell (i := i + 1) (by omega)
          have e9 := k3.cell (i := i + 9) (by omega)
          have e14 := k3.cell (i := i + 14) (by omega)
          have e16 := k3.cell (i := i + 16) (by omega)
          have z16 := k3.frozen (i + 16)
          rw [hg _ (by omega)] at e0 e1 e9 e14
          generalize l.getD i 0 = a0 at *
          generalize l.getD (i + 1) 0 = x at *
          generalize l.getD (i + 9) 0 = a9 at *
          generalize l.getD (i + 14) 0 = y at *
          generalize (padZ l)[i + 16]?.getD 0 = a16 at *
          have HS := Lib.hid hset
          clear hset hg hlen
          go_wp2_with fail
          have f1 : IntKind.i64.wrap (↑i + 1) = ↑i + 1 := IntWalk.i64_in _ (by omega)
          have f14 : IntKind.i64.wrap (↑i + 14) = ↑i + 14 := IntWalk.i64_in _ (by omega)
          have p0 : (0 : Int) ≤ (i : Int) := by omega
          have p1 : (0 : Int) ≤ (i : Int) + 1 := by omega
          have p14 : (0 : Int) ≤ (i : Int) + 14 := by omega
          have l1 : (i : Int) + 1 < 64 := by omega
          have l14 : (i : Int) + 14 < 64 := by omega
          have t1 : ((i : Int) + 1).toNat = i + 1 := by omega
          have t14 : ((i : Int) + 14).toNat = i + 14 := by omega
          go_quiet (fail)
          clear f1 f14 p0 p1 p14 l1 l14 t1 t14
          go_wp2_with fail
          refine (turned_any _ 7 7 _ rfl hx (by decide)).mono ?_
          rintro e w' ⟨rfl, rfl⟩
          go_wp2_with fail
          refine (turned_any _ 18 18 _ rfl hx (by decide)).mono ?_
          rintro e w' ⟨rfl, rfl⟩
          go_wp2_with fail
          refine (turned_any _ 17 17 _ rfl hy (by decide)).mono ?_
          rintro e w' ⟨rfl, rfl⟩
          go_wp2_with fail
          refine (turned_any _ 19 19 _ rfl hy (by decide)).mono ?_
          rintro e w' ⟨rfl, rfl⟩
          go_wp2_with fail
          have f9 : IntKind.i64.wrap (↑i + 9) = ↑i + 9 := IntWalk.i64_in _ (by omega)
          have f16 : IntKind.i64.wrap (↑i + 16) = ↑i + 16 := IntWalk.i64_in _ (by omega)
          have p0 : (0 : Int) ≤ (i : Int) := by omega
          have p9 : (0 : Int) ≤ (i : Int) + 9 := by omega
          have p16 : (0 : Int) ≤ (i : Int) + 16 := by omega
          have l0 : (i : Int) < 64 := by omega
          have l9 : (i : Int) + 9 < 64 := by omega
          have l16 : (i : Int) + 16 < 64 := by omega
          have t9 : ((i : Int) + 9).toNat = i + 9 := by omega
          have t16 : ((i : Int) + 16).toNat = i + 16 := by omega
          have k3q : Arr (wr.drewN nq) (w.heap.size + 1) 166 .u32 (padZ l) := k3
          have k2q : Arr (wr.drewN nq) w.heap.size 166 .u32 (List.replicate 64 0) := k2
          have hbq : Below w.heap.size w (wr.drewN nq) := below_draws hbx nq
          have e0q : (wr.drewN nq).cell? ⟨w.heap.size + 1, i, none⟩ = some (.int .u32 a0) := e0
          have e9q : (wr.drewN nq).cell? ⟨w.heap.size + 1, i + 9, none⟩ = some (.int .u32 a9) := e9
          have e16q : (wr.drewN nq).cell? ⟨w.heap.size + 1, i + 16, none⟩ = some (.int .u32 a16) := e16
          have z16q : (wr.drewN nq).frozen? ⟨w.heap.size + 1, i + 16, none⟩ = false := z16
          clear e0 e1 e9 e14 e16 z16 k3 k2 hbx
          generalize wr.drewN nq = wq at *
          have k3d : Arr wq.drew (w.heap.size + 1) 166 .u32 (padZ l) := k3q
          have k2d : Arr wq.drew w.heap.size 166 .u32 (List.replicate 64 0) := k2q
          have hbd : Below w.heap.size w wq.drew := below_draws hbq 1
          go_still_tail 15, (by kernel_rfl)
          change wpList _ _ _ _ _ wq.drew
          have e16d := k3d.cell (i := i + 16) (by rw [padZ_length (by rw [hl.length]; omega)]; omega)
          have z16d := k3d.frozen (i + 16)
          clear f9 f16 p0 p9 p16 l0 l9 l16 t9 t16 k3q k2q hbq e0q e9q e16q z16q
          generalize wq.drew = w2 at *
          go_wp2_with fail
          have k9 := k3d.set_ (i + 16) (add32 (add32 (add32 a0 (sig0 x)) a9) (sig1 y))
          rw [HS.out, add32_4] at k9
          unfold sig0 sig1 at k9
          go_roundw
          case rel => exact ⟨i + 1, l', by omega, by go_num, hl', k9, k2d.far (by simp) _, hbd.setCell (by simp) _⟩
          case measure => simp [intOf] <;> omega
        · obtain rfl : i = 48 := by omega
          have arr64t : Tryd.prog.underlying 166 = some (.array 64 150) := Tryd.underlying166
          rw [padZ_full hl.length, hl.out] at k3
          have hsl := Lib.hid (sched_length bs 64)
          go_wp2_with (first
            | (refine wpList_load_arr rfl _ _ rfl k3 rfl arr64t rfl (by rw [hsl.out]; kernel_rfl) ?_)
            | (refine wpList_store_arr rfl _ _ _ rfl k2 rfl rfl (by rw [hsl.out]; rfl) (by rw [hsl.out]; kernel_rfl) ?_; intro w4 r4 g4))
          refine bodyPost_ret (v := arrV .u32 (sched bs 64)) (results_cell_row rfl _ _ w.heap.size 166 _ (0, 0) _ rfl r4 arr64t rfl (by rw [show ((sched bs 64).map (Value.int .u32)).toArray.size = 64 by simp [sched_length]]; kernel_rfl)) rfl ⟨rfl, ?_⟩
          exact hbx.trans (below_of_grown g4 hbx.size fun g hg => by injection hg with hg; omega)
end Go.Proofs.YtpnodocjpedcmaaDoor.Sha

namespace Go.Proofs.YtpnodocjpedcmaaDoor.Sha
open Go.ChangeShapes Go.WideShapes Go.ChangeAt Go.RowKit Go.Proofs.YtpnodocjpedcmaaDoor.Kit

/-- What the program's own table reads as. -/
def Laid (g : Nat) (l : List Int) (w : World) : Prop := ∀ k, k < l.length → w.cell? ⟨g, k, none⟩ = some (.int .u32 (l.getD k 0))
theorem Laid.lt {g : Nat} {l : List Int} {w : World} (h : Laid g l w) (hl : 0 < l.length) : g < w.heap.size := World.block_lt_of_cell? _ _ (h 0 hl)
theorem Laid.below {g : Nat} {l : List Int} {w w' : World} (h : Laid g l w) (hl : 0 < l.length) (hb : Below w.heap.size w w') : Laid g l w' := fun k hk => (hb.cell (p := ⟨g, k, none⟩) (h.lt hl)).trans (h k hk)

def LaidS (w : World) : Prop := Laid 0 cubesL w
theorem cubes_length : cubesL.length = 64 := rfl
theorem LaidS.below {w w' : World} (h : LaidS w) (hb : Below w.heap.size w w') : LaidS w' := Laid.below h (by rw [cubes_length]; omega) hb
theorem LaidS.at_ {w : World} (h : LaidS w) {i : Nat} (hi : i < 64) : w.cell? ⟨0, i, none⟩ = some (.int .u32 (cubesL.getD i 0)) := h i (by rw [cubes_length]; exact hi)

/-- A quiet call whose contract has the caller's world on the left. -/
theorem quiet_left {P : Program} {f : FuncId} {args : Array Value} {w : World} {n : Nat} {v : Value}
    (h : Calls P f args (w.drewN n) fun e w' => e = .returned v ∧ w.drewN n = w') : Calls P f args (w.drewN n) fun e w'' => e = .returned v ∧ ∃ m, w'' = w.drewN m :=
  h.mono fun _ _ ⟨he, hm⟩ => ⟨he, n, hm.symm⟩

/-- l is the state behind n rounds. -/
structure IsRnd (ws : List Int) (n : Nat) (s l : List Int) : Prop where
  out : l = roundsS ws n s

def t1 (e f g h k x : Int) : Int := add32 (add32 (add32 (add32 h (sum1 e)) (picks e f g)) k) x
def t2 (a b c : Int) : Int := add32 (sum0 a) (most a b c)
theorem IsRnd.next {ws : List Int} {n : Nat} {s : List Int} {a b c d e f g h : Int} (r : IsRnd ws n s [a, b, c, d, e, f, g, h]) {k x : Int} (hk : cubesL.getD n 0 = k) (hx : ws.getD n 0 = x) :
    IsRnd ws (n + 1) s [add32 (t1 e f g h k x) (t2 a b c), a, b, c, add32 d (t1 e f g h k x), e, f, g] := by
  subst hk; subst hx
  exact ⟨by rw [roundsS, ← r.out]; rfl⟩

theorem IsRnd.bd {ws : List Int} {n : Nat} {s l : List Int} (r : IsRnd ws n s l) (hs : St8 s) : St8 l := by rw [r.out]; exact roundsS_st ws hs n

theorem cubes_bd (i : Nat) : W32 (cubesL.getD i 0) := by
  have h : ∀ i, i < 64 → 0 ≤ cubesL.getD i 0 ∧ cubesL.getD i 0 ≤ 4294967295 := by decide +kernel
  by_cases hi : i < 64
  · exact h i hi
  · rw [List.getD_eq_getElem?_getD, List.getElem?_eq_none (by rw [cubes_length]; omega)]
    unfold W32; simp

theorem arr_of_words (W : World) (ws : List Int) (k : IntKind) (t : TypeId) : Arr (W.alloc (.cells (ws.map (Value.int k)).toArray t)) W.heap.size t k ws := Arr.new W t k ws

theorem IsRnd.mix {bs ws : List Int} (hw : IsSched bs 64 ws) {a0 b0 c0 d0 e0 f0 g0 h0 a b c d e f g h : Int} (r : IsRnd ws 64 [a0, b0, c0, d0, e0, f0, g0, h0] [a, b, c, d, e, f, g, h]) :
    mixS [a0, b0, c0, d0, e0, f0, g0, h0] bs = [add32 a0 a, add32 b0 b, add32 c0 c, add32 d0 d, add32 e0 e, add32 f0 f, add32 g0 g, add32 h0 h] := by
  unfold mixS
  rw [← hw.out, ← r.out]
  rfl

set_option maxRecDepth 100000 in
set_option maxHeartbeats 3200000 in
theorem mix_any (s : List Int) (hs : St8 s) (A : Option Addr) (bs : List Int) (c : Nat) (w : World) (hl : bs.length = 64) (hc : 64 ≤ c) (hm : c ≤ maxLen) (ho : Octets bs) (hr : Holds w w.heap.size .u8 A bs) (hL : LaidS w) :
    Calls Tryd.prog 88 #[arrV .u32 s, .slice A 64 c] w fun e w' => e = .returned (arrV .u32 (mixS s bs)) ∧ Below w.heap.size w w' := by
  obtain ⟨a0, b0, c0, d0, e0, f0, g0, h0, rfl, wa, wb, wc, wd, we, wf, wg, wh⟩ := hs.open_
  have GW := fun W hb => words_any A bs c W hl hc hm ho ((hr.below hb).more hb.size)
  obtain ⟨ws, hws⟩ : ∃ ws, IsSched bs 64 ws := ⟨_, ⟨rfl⟩⟩
  rw [← hws.out] at GW
  have GW := Lib.hid GW
  unfold arrV
  go_enter Tryd.func88, Tryd.ntmps88
  go_wp2_with fail
  refine (GW.out _ (((Below.refl _ _).alloc (Nat.le_refl _) _).alloc (by simp) _)).mono ?_
  rintro e w1 ⟨rfl, hb1⟩
  have sa : Arr w1 w.heap.size 151 .u32 [a0, b0, c0, d0, e0, f0, g0, h0] := ((arr_of_words w _ _ _).alloc _).below hb1 (by simp <;> omega)
  have sr : Arr w1 (w.heap.size + 1) 151 .u32 [0, 0, 0, 0, 0, 0, 0, 0] := by
    have := (arr_of_words (w.alloc (.cells ([a0, b0, c0, d0, e0, f0, g0, h0].map (Value.int .u32)).toArray 151)) [0, 0, 0, 0, 0, 0, 0, 0] .u32 151).below hb1 (by simp)
    rwa [show (w.alloc (.cells ([a0, b0, c0, d0, e0, f0, g0, h0].map (Value.int .u32)).toArray 151)).heap.size = w.heap.size + 1 by simp] at this
  have hz1 : w.heap.size + 1 < w1.heap.size := sr.lt
  have hbw : Below w.heap.size w w1 := (((Below.refl _ _).alloc (Nat.le_refl _) _).alloc (by simp) _).trans (hb1.mono (by simp; omega))
  clear GW hb1
  go_wp2_with (refine wpList_store_arr rfl _ _ _ rfl (arr64 w1) rfl rfl (by rw [hws.length]; rfl) (by rw [hws.length]; kernel_rfl) ?_; intro w2 r2 g2)
  have hb2 : Below w.heap.size w w2 := (hbw.trans ((Below.refl _ w1).alloc (by omega) _)).trans (below_of_grown g2 (by simp; omega) (fun g hg => by injection hg with hg; omega))
  have s2 : Arr w2 w.heap.size 151 .u32 [a0, b0, c0, d0, e0, f0, g0, h0] := (sa.alloc _).grown g2 (by intro h; injection h with h; omega)
  have o2 : Arr w2 (w.heap.size + 1) 151 .u32 [0, 0, 0, 0, 0, 0, 0, 0] := (sr.alloc _).grown g2 (by intro h; injection h with h; omega)
  clear g2 sa sr hbw
  have q0 : w2.cell? ⟨w.heap.size, 0, none⟩ = some (.int .u32 a0) := s2.cell (i := 0) (by simp)
  have q1 : w2.cell? ⟨w.heap.size, 1, none⟩ = some (.int .u32 b0) := s2.cell (i := 1) (by simp)
  have q2 : w2.cell? ⟨w.heap.size, 2, none⟩ = some (.int .u32 c0) := s2.cell (i := 2) (by simp)
  have q3 : w2.cell? ⟨w.heap.size, 3, none⟩ = some (.int .u32 d0) := s2.cell (i := 3) (by simp)
  have q4 : w2.cell? ⟨w.heap.size, 4, none⟩ = some (.int .u32 e0) := s2.cell (i := 4) (by simp)
  have q5 : w2.cell? ⟨w.heap.size, 5, none⟩ = some (.int .u32 f0) := s2.cell (i := 5) (by simp)
  have q6 : w2.cell? ⟨w.heap.size, 6, none⟩ = some (.int .u32 g0) := s2.cell (i := 6) (by simp)
  have q7 : w2.cell? ⟨w.heap.size, 7, none⟩ = some (.int .u32 h0) := s2.cell (i := 7) (by simp)
  go_wp2_with fail
  go_quiet (fail)
  go_wp2_with fail
  go_quiet (fail)
  go_wp2_with fail
  clear q0 q1 q2 q3 q4 q5 q6 q7
  generalize w1.heap.size = B1 at *
  go_loopw [6, 7, 8, 9, 10, 11, 12, 13, 35] (fun sa sb sc sd se sf sg sh s wx => ∃ (i : Nat) (a b c d e f g h : Int), i ≤ 64 ∧ s = .int .i64 i ∧ sa = .int .u32 a ∧ sb = .int .u32 b ∧ sc = .int .u32 c ∧ sd = .int .u32 d ∧ se = .int .u32 e ∧ sf = .int .u32 f ∧ sg = .int .u32 g ∧ sh = .int .u32 h ∧
      IsRnd ws i [a0, b0, c0, d0, e0, f0, g0, h0] [a, b, c, d, e, f, g, h] ∧ Arr wx B1 166 .u32 ws ∧ Arr wx w.heap.size 151 .u32 [a0, b0, c0, d0, e0, f0, g0, h0] ∧ Arr wx (w.heap.size + 1) 151 .u32 [0, 0, 0, 0, 0, 0, 0, 0] ∧ Below w.heap.size w wx)
      (fun _ _ _ _ _ _ _ _ s _ => 64 - (intOf s).toNat)
  case atStart => exact ⟨0, a0, b0, c0, d0, e0, f0, g0, h0, by omega, rfl, rfl, rfl, rfl, rfl, rfl, rfl, rfl, rfl, ⟨rfl⟩, r2, s2, o2, below_draws (below_draws hb2 _) _⟩
  case round =>
    clear r2 s2 o2 hb2
    obtain ⟨i, a, b, c, d, e, f, g, h, hi, rfl, rfl, rfl, rfl, rfl, rfl, rfl, rfl, rfl, hR, r2, s2, o2, hb⟩ := hrel
    by_cases hlt : i < 64
    · have hst := hR.bd ⟨rfl, fun x hx => by
        simp only [List.mem_cons, List.not_mem_nil, or_false] at hx
        rcases hx with rfl | rfl | rfl | rfl | rfl | rfl | rfl | rfl <;> assumption⟩
      have xa := hst.2 a (by simp)
      have xb := hst.2 b (by simp)
      have xc := hst.2 c (by simp)
      have xd := hst.2 d (by simp)
      have xe := hst.2 e (by simp)
      have xf := hst.2 f (by simp)
      have xg := hst.2 g (by simp)
      have xh := hst.2 h (by simp)
      have kc := (hb.cell (p := ⟨0, i, none⟩) (hL.lt (by rw [cubes_length]; omega))).trans (hL.at_ hlt)
      have kw := r2.cell (i := i) (by rw [hws.length]; omega)
      have xw := hws.get i
      have xk := cubes_bd i
      have hN := hR.next (k := cubesL.getD i 0) (x := ws[i]?.getD 0) rfl rfl
      rw [List.getD_eq_getElem?_getD] at xw
      generalize cubesL.getD i 0 = K at *
      generalize ws[i]?.getD 0 = X at *
      have HN := Lib.hid hN
      clear hst hR hN hr hs wa wb wc wd we wf wg wh
      go_wp2_with fail
      refine wp_region_quiet_lit (by kernel_rfl) (by kernel_rfl) ?_
      repeat (quiet_step (fail))
      quiet_step (exact quiet_left (turned_any e 6 6 _ rfl xe (by decide)))
      repeat (quiet_step (fail))
      quiet_step (exact quiet_left (turned_any e 11 11 _ rfl xe (by decide)))
      repeat (quiet_step (fail))
      quiet_step (exact quiet_left (turned_any e 25 25 _ rfl xe (by decide)))
      repeat (quiet_step (fail))
      refine wpQuiet_nil ?_
      intro _ hw'
      obtain ⟨nq, hw''⟩ := hw'
      subst hw''
      go_wp2_with fail
      refine (turned_any a 2 2 _ rfl xa (by decide)).mono ?_
      rintro _ _ ⟨rfl, rfl⟩
      go_wp2_with fail
      refine (turned_any a 13 13 _ rfl xa (by decide)).mono ?_
      rintro _ _ ⟨rfl, rfl⟩
      go_wp2_with fail
      refine (turned_any a 22 22 _ rfl xa (by decide)).mono ?_
      rintro _ _ ⟨rfl, rfl⟩
      go_wp2_with fail
      go_roundw
      case rel => exact ⟨i + 1, _, _, _, _, _, _, _, _, by omega, by go_num, rfl, rfl, rfl, rfl, rfl, rfl, rfl, rfl, HN.out, r2, s2, o2, below_draws hb nq⟩
      case measure => simp [intOf] <;> omega
    · obtain rfl : i = 64 := by omega
      have hM := hR.mix hws
      unfold add32 at hM
      have HM := Lib.hid hM
      have q0 : wr.cell? ⟨w.heap.size, 0, none⟩ = some (.int .u32 a0) := s2.cell (i := 0) (by simp)
      have q1 : wr.cell? ⟨w.heap.size, 1, none⟩ = some (.int .u32 b0) := s2.cell (i := 1) (by simp)
      have q2 : wr.cell? ⟨w.heap.size, 2, none⟩ = some (.int .u32 c0) := s2.cell (i := 2) (by simp)
      have q3 : wr.cell? ⟨w.heap.size, 3, none⟩ = some (.int .u32 d0) := s2.cell (i := 3) (by simp)
      have q4 : wr.cell? ⟨w.heap.size, 4, none⟩ = some (.int .u32 e0) := s2.cell (i := 4) (by simp)
      have q5 : wr.cell? ⟨w.heap.size, 5, none⟩ = some (.int .u32 f0) := s2.cell (i := 5) (by simp)
      have q6 : wr.cell? ⟨w.heap.size, 6, none⟩ = some (.int .u32 g0) := s2.cell (i := 6) (by simp)
      have q7 : wr.cell? ⟨w.heap.size, 7, none⟩ = some (.int .u32 h0) := s2.cell (i := 7) (by simp)
      clear hM hR hr hs wa wb wc wd we wf wg wh
      have arr8 : Tryd.prog.underlying 151 = some (.array 8 150) := Tryd.underlying151
      go_wp2_with (refine wpList_store_arr (ys := [(a0 + a) % 4294967296, (b0 + b) % 4294967296, (c0 + c) % 4294967296, (d0 + d) % 4294967296, (e0 + e) % 4294967296, (f0 + f) % 4294967296, (g0 + g) % 4294967296, (h0 + h) % 4294967296]) rfl _ _ _ rfl o2 rfl rfl rfl (by kernel_rfl) ?_; intro w4 r4 g4)
      rw [HM.out]
      refine bodyPost_ret (v := arrV .u32 _) (results_cell_row rfl _ _ (w.heap.size + 1) 151 _ (0, 0) _ rfl r4 arr8 rfl (by kernel_rfl)) rfl ⟨rfl, ?_⟩
      exact hb.trans (below_of_grown g4 hb.size fun g hg => by injection hg with hg; omega)
end Go.Proofs.YtpnodocjpedcmaaDoor.Sha

namespace Go.Proofs.YtpnodocjpedcmaaDoor.Sha
open Go.ChangeShapes Go.WideShapes Go.ChangeAt Go.RowKit Go.Proofs.YtpnodocjpedcmaaDoor.Kit

theorem iv_st : St8 ivL := ⟨rfl, (by decide : ∀ x ∈ ivL, 0 ≤ x ∧ x ≤ 4294967295)⟩
/-- The state behind the whole blocks of bytes. -/
def stateL (xs : List Int) : List Int := foldN (xs.length / 64) ivL xs
theorem stateL_st (xs : List Int) : St8 (stateL xs) := foldN_st _ _ iv_st
theorem stateL_nil : stateL [] = ivL := rfl
theorem stateL_part {ys zs : List Int} (h : ys.length % 64 = 0) (hz : zs.length < 64) : stateL (ys ++ zs) = stateL ys := by
  unfold stateL
  rw [List.length_append, show (ys.length + zs.length) / 64 = ys.length / 64 by omega, foldN_app _ _ _ _ (by omega)]
theorem stateL_block {ys zs : List Int} (h : ys.length % 64 = 0) (hz : zs.length = 64) : stateL (ys ++ zs) = mixS (stateL ys) zs := by
  unfold stateL
  rw [List.length_append, show (ys.length + zs.length) / 64 = ys.length / 64 + 1 by omega, foldN_next, foldN_app _ _ _ _ (by omega)]
  congr 1
  rw [show 64 * (ys.length / 64) = ys.length by omega, List.drop_append_of_le_length (Nat.le_refl _), List.drop_length, List.nil_append, List.take_of_length_le (by omega)]

theorem stateL_whole (xs : List Int) : stateL (xs.take (64 * (xs.length / 64))) = stateL xs := by
  have h := stateL_part (ys := xs.take (64 * (xs.length / 64))) (zs := xs.drop (64 * (xs.length / 64))) (by simp; omega) (by simp; omega)
  rw [List.take_append_drop] at h
  exact h.symm
theorem state_same {xs bs : List Int} (h : xs.length % 64 + bs.length < 64) : stateL (xs ++ bs) = stateL xs := by
  have h1 := stateL_part (ys := xs.take (64 * (xs.length / 64))) (zs := xs.drop (64 * (xs.length / 64)) ++ bs) (by simp; omega) (by simp; omega)
  rw [← List.append_assoc, List.take_append_drop, stateL_whole] at h1
  exact h1
theorem state_full {xs zs : List Int} (h : xs.length % 64 + zs.length = 64) : stateL (xs ++ zs) = mixS (stateL xs) (xs.drop (64 * (xs.length / 64)) ++ zs) := by
  have h1 := stateL_block (ys := xs.take (64 * (xs.length / 64))) (zs := xs.drop (64 * (xs.length / 64)) ++ zs) (by simp; omega) (by simp; omega)
  rw [← List.append_assoc, List.take_append_drop, stateL_whole] at h1
  exact h1
theorem rest_next {xs bs r : List Int} (h2 : r.length = 64) (h3 : r.take (xs.length % 64) = xs.drop (64 * (xs.length / 64))) (hs : xs.length % 64 + bs.length < 64) :
    (r.take (xs.length % 64) ++ (bs ++ r.drop (xs.length % 64 + bs.length))).take ((xs ++ bs).length % 64) = (xs ++ bs).drop (64 * ((xs ++ bs).length / 64)) := by
  rw [h3, List.length_append, show (xs.length + bs.length) % 64 = xs.length % 64 + bs.length by omega, show 64 * ((xs.length + bs.length) / 64) = 64 * (xs.length / 64) by omega,
    ← List.append_assoc, List.take_append_of_le_length (by simp; omega), List.take_of_length_le (by simp; omega), List.drop_append_of_le_length (by omega)]
theorem rest_full {xs zs r : List Int} (h3 : r.take (xs.length % 64) = xs.drop (64 * (xs.length / 64))) (h2 : r.length = 64) (hs : xs.length % 64 + zs.length = 64) :
    r.take (xs.length % 64) ++ (zs ++ r.drop (xs.length % 64 + zs.length)) = xs.drop (64 * (xs.length / 64)) ++ zs := by
  rw [h3, hs, List.drop_of_length_le (l := r) (by omega), List.append_nil]
/-- What is copied into an empty rest. -/
theorem rest_last {ys zs r : List Int} (h : ys.length % 64 = 0) (hz : zs.length < 64) : (zs ++ r).take ((ys ++ zs).length % 64) = (ys ++ zs).drop (64 * ((ys ++ zs).length / 64)) := by
  rw [List.length_append, show (ys.length + zs.length) % 64 = zs.length by omega, show 64 * ((ys.length + zs.length) / 64) = ys.length by omega, List.take_left, List.drop_left]

def tailZ (n : Nat) : Nat := (119 - n % 64) % 64
theorem tailZ_lt (n : Nat) : tailZ n < 64 := by unfold tailZ; omega
theorem tailZ_mod (n : Nat) : (n + (9 + tailZ n)) % 64 = 0 := by unfold tailZ; omega
def lenB (n : Nat) : List Int := (List.range 8).map fun i => ((8 * n / 2 ^ (56 - 8 * i) % 256 : Nat) : Int)
theorem lenB_length (n : Nat) : (lenB n).length = 8 := by simp [lenB]
/-- What stands behind n bytes. -/
def endB (n : Nat) : List Int := 128 :: (List.replicate (tailZ n) 0 ++ lenB n)
theorem endB_length (n : Nat) : (endB n).length = 9 + tailZ n := by simp [endB, lenB_length]; omega
theorem lenB_octets (n : Nat) : Octets (lenB n) := by
  intro x hx
  obtain ⟨i, _, rfl⟩ := List.mem_map.1 hx
  omega
theorem endB_octets (n : Nat) : Octets (endB n) := by
  intro x hx
  rcases List.mem_cons.1 hx with rfl | hx
  · omega
  · rcases List.mem_append.1 hx with hx | hx
    · obtain ⟨_, rfl⟩ := List.mem_replicate.1 hx; omega
    · exact lenB_octets n x hx
def padL (xs : List Int) : List Int := xs ++ endB xs.length
theorem padL_mod (xs : List Int) : (padL xs).length % 64 = 0 := by
  unfold padL
  rw [List.length_append, endB_length]
  exact tailZ_mod _
/-- The bytes of a state. -/
def digL (s : List Int) : List Int := (List.range 32).map fun i => s.getD (i / 4) 0 / 2 ^ (24 - 8 * (i % 4)) % 256
theorem digL_length (s : List Int) : (digL s).length = 32 := by simp [digL]
theorem digL_octets (s : List Int) : Octets (digL s) := by
  intro x hx
  obtain ⟨i, _, rfl⟩ := List.mem_map.1 hx
  omega
/-- The sum of bytes. -/
def sumL (xs : List Int) : List Int := digL (stateL (padL xs))
theorem sumL_length (xs : List Int) : (sumL xs).length = 32 := digL_length _
theorem sumL_octets (xs : List Int) : Octets (sumL xs) := digL_octets _

/-! ### What a hash's block has -/

def hcells (st rest : List Int) (n : Int) : List Value := st.map (.int .u32) ++ (rest.map (.int .u8) ++ [.int .u64 n])
theorem hcells_length {st rest : List Int} (n : Int) (hs : st.length = 8) (hr : rest.length = 64) : (hcells st rest n).length = 73 := by simp [hcells, hs, hr]

/-- Block g is a hash of this state, these bytes that wait, so many taken. -/
def HB (w : World) (g : Nat) (st rest : List Int) (n : Int) : Prop := Block w g 154 (hcells st rest n).toArray

section
variable {w w' : World} {g : Nat} {st rest : List Int} {n : Int}
theorem HB.lt (h : HB w g st rest n) : g < w.heap.size := Block.lt h
theorem HB.frozen (h : HB w g st rest n) (i : Nat) : w.frozen? ⟨g, i, none⟩ = false := Block.frozen h i
theorem HB.out {S : Nat → Prop} (h : HB w g st rest n) (ho : TurnsIn S w w') (hg : ¬ S g) : HB w' g st rest n := Block.out h ho hg
theorem HB.below {B : Nat} (h : HB w g st rest n) (hb : Below B w w') (hg : g < B) : HB w' g st rest n := Block.below h hb hg
theorem HB.stCell (h : HB w g st rest n) (hs : st.length = 8) {i : Nat} (hi : i < 8) : w.cell? ⟨g, i, none⟩ = some (.int .u32 (st[i]?.getD 0)) := by
  rw [Block.cell h i]
  simp only [List.getElem?_toArray, hcells]
  rw [List.getElem?_append_left (by simp; omega)]
  simp [List.getElem?_eq_getElem (show i < st.length by omega)]
theorem HB.restCell (h : HB w g st rest n) (hs : st.length = 8) (hr : rest.length = 64) {i : Nat} (hi : i < 64) : w.cell? ⟨g, 8 + i, none⟩ = some (.int .u8 (rest[i]?.getD 0)) := by
  rw [Block.cell h (8 + i)]
  simp only [List.getElem?_toArray, hcells]
  rw [List.getElem?_append_right (by simp; omega), List.getElem?_append_left (by simp; omega)]
  simp [hs, List.getElem?_eq_getElem (show i < rest.length by omega)]
theorem HB.taken (h : HB w g st rest n) (hs : st.length = 8) (hr : rest.length = 64) : w.cell? ⟨g, 72, none⟩ = some (.int .u64 n) := by
  rw [Block.cell h 72]
  simp only [List.getElem?_toArray, hcells]
  rw [List.getElem?_append_right (by simp; omega), List.getElem?_append_right (by simp; omega)]
  simp [hs, hr]
theorem HB.setTaken (h : HB w g st rest n) (hs : st.length = 8) (hr : rest.length = 64) (m : Int) : HB (w.setCell ⟨g, 72, none⟩ (.int .u64 m)) g st rest m := by
  have := Block.set_ h 72 (.int .u64 m)
  unfold HB
  rw [List.setIfInBounds_toArray] at this
  have e : (hcells st rest n).set 72 (.int .u64 m) = hcells st rest m := by
    unfold hcells
    rw [List.set_append, if_neg (by simp; omega), List.set_append, if_neg (by simp; omega)]
    simp [hs, hr]
  rwa [e] at this
theorem HB.range (h : HB w g st rest n) : w.rangeAt g 0 (hcells st rest n) := by
  have := World.rangeAt_of_block h 0 (hcells st rest n).length
  simpa using this
theorem hcells_one (st rest : List Int) (n : Int) : ∀ v ∈ hcells st rest n, v.oneCell' = true := by
  intro v hv
  simp only [hcells, List.mem_append, List.mem_map, List.mem_singleton] at hv
  rcases hv with ⟨x, _, rfl⟩ | ⟨x, _, rfl⟩ | rfl <;> rfl
theorem HB.restHolds (h : HB w g st rest n) (hs : st.length = 8) (hr : rest.length = 64) : Holds w w.heap.size .u8 (some ⟨g, 8, none⟩) rest := by
  intro _
  exact ⟨g, 8, rfl, h.lt, fun j hj => by rw [h.restCell hs hr (by omega)]; simp [List.getD]⟩
theorem hcells_splice {zs : List Int} {q : Nat} (hs : st.length = 8) (hr : rest.length = 64) (hq : q + zs.length ≤ 64) :
    (hcells st rest n).take (8 + q) ++ (zs.map (Value.int .u8) ++ (hcells st rest n).drop (8 + q + zs.length)) = hcells st (rest.take q ++ (zs ++ rest.drop (q + zs.length))) n := by
  unfold hcells
  rw [List.take_append, List.take_of_length_le (by simp; omega), List.take_append_of_le_length (by simp; omega), List.drop_append, List.drop_of_length_le (by simp; omega), List.nil_append, List.drop_append_of_le_length (by simp; omega)]
  simp only [List.length_map, hs, show 8 + q - 8 = q by omega, show 8 + q + zs.length - 8 = q + zs.length by omega, List.map_append, List.map_take, List.map_drop, List.append_assoc]
theorem HB.there (h : HB w g st rest n) (m : Nat) (hm : m ≤ (hcells st rest n).length) : w.there g 0 m := fun j hj => by
  rw [Nat.zero_add, Block.cell h j]
  exact ⟨by simp; omega, h.frozen j⟩
theorem HB.setAll (h : HB w g st rest n) (hs : st.length = 8) (hr : rest.length = 64) {st2 rest2 : List Int} (n2 : Int) (h2 : st2.length = 8) (h3 : rest2.length = 64) : HB (w.setCells g 0 (hcells st2 rest2 n2)) g st2 rest2 n2 := by
  have := setCells_block (hcells st2 rest2 n2) 0 w _ h (by simp [hcells, h2, h3]; omega)
  unfold HB
  have e : (hcells st rest n).take 0 ++ (hcells st2 rest2 n2 ++ (hcells st rest n).drop (0 + (hcells st2 rest2 n2).length)) = hcells st2 rest2 n2 := by
    rw [List.drop_of_length_le (by rw [hcells_length _ hs hr, hcells_length _ h2 h3]; omega)]
    simp
  simp only [] at this
  rwa [e] at this
/-- A whole hash is stored over another. -/
theorem wpList_store_hash {P : Program} {ops : Array Oper} {more : List Oper} {o : Oper} {a : Act} {Q : Exit → Act → World → Prop} (hgd : o.guard = none) (ty : TypeId) (x y : Operand) (ho : o.op = .store ty x y)
    (h : HB w g st rest n) (hs : st.length = 8) (hr : rest.length = 64) {st2 rest2 : List Int} {n2 : Int} (h2 : st2.length = 8) (h3 : rest2.length = 64) (hx : a.eval x = .pointer (some ⟨g, 0, none⟩)) (hy : a.eval y = .agg (hcells st2 rest2 n2).toArray)
    (hi : (P.info? ty).map (·.size) = some 73) (hK : ∀ w', HB w' g st2 rest2 n2 → w.grownBy w' (some g) → wpList P ops Q more (a.put o.dst undef) w') : wpList P ops Q (o :: more) a w := by
  refine wpList_store_mid hgd ty x y ho g 0 (hcells st2 rest2 n2).toArray hx hy (h.there _ (by simp [hcells, h2, h3, hs, hr])) (by rw [hi]; simp [hcells, h2, h3]) (all_oneCell_toArray (hcells_one st2 rest2 n2)) ?_
  exact hK _ (h.setAll hs hr n2 h2 h3) (setCells_grown g _ 0 w)
theorem HB.setState (h : HB w g st rest n) (hs : st.length = 8) {s2 : List Int} (h2 : s2.length = 8) : HB (w.setCells g 0 (s2.map (.int .u32))) g s2 rest n := by
  have := setCells_block (s2.map (Value.int .u32)) 0 w _ h (by simp [hcells]; omega)
  unfold HB
  have e : (hcells st rest n).take 0 ++ (s2.map (Value.int .u32) ++ (hcells st rest n).drop (0 + (s2.map (Value.int .u32)).length)) = hcells s2 rest n := by
    unfold hcells
    simp [h2, hs]
  simp only [] at this
  rwa [e] at this
end
end Go.Proofs.YtpnodocjpedcmaaDoor.Sha

namespace Go.Proofs.YtpnodocjpedcmaaDoor.Sha
open Go.ChangeShapes Go.WideShapes Go.ChangeAt Go.RowKit Go.Proofs.YtpnodocjpedcmaaDoor.Kit

/-- Block g is a hash that has taken these bytes. -/
structure HashIs (w : World) (g : Nat) (xs : List Int) : Prop where
  ex : ∃ rest, HB w g (stateL xs) rest xs.length ∧ rest.length = 64 ∧ rest.take (xs.length % 64) = xs.drop (64 * (xs.length / 64))

theorem HashIs.lt {w : World} {g : Nat} {xs : List Int} (h : HashIs w g xs) : g < w.heap.size := by
  obtain ⟨r, h1, _⟩ := h.ex
  exact h1.lt
theorem HashIs.out {w w' : World} {g : Nat} {xs : List Int} {S : Nat → Prop} (h : HashIs w g xs) (ho : TurnsIn S w w') (hg : ¬ S g) : HashIs w' g xs := by
  obtain ⟨r, h1, h2, h3⟩ := h.ex
  exact ⟨r, h1.out ho hg, h2, h3⟩
theorem HashIs.below {w w' : World} {g B : Nat} {xs : List Int} (h : HashIs w g xs) (hb : Below B w w') (hg : g < B) : HashIs w' g xs := by
  obtain ⟨r, h1, h2, h3⟩ := h.ex
  exact ⟨r, h1.below hb hg, h2, h3⟩

theorem zero_hash (W : World) : (zeroValue 154).run Tryd.prog W = .ok (.agg #[.int .u32 0, .int .u32 0, .int .u32 0, .int .u32 0, .int .u32 0, .int .u32 0, .int .u32 0, .int .u32 0, .int .u8 0, .int .u8 0, .int .u8 0, .int .u8 0, .int .u8 0, .int .u8 0, .int .u8 0, .int .u8 0, .int .u8 0, .int .u8 0, .int .u8 0, .int .u8 0, .int .u8 0, .int .u8 0, .int .u8 0, .int .u8 0, .int .u8 0, .int .u8 0, .int .u8 0, .int .u8 0, .int .u8 0, .int .u8 0, .int .u8 0, .int .u8 0, .int .u8 0, .int .u8 0, .int .u8 0, .int .u8 0, .int .u8 0, .int .u8 0, .int .u8 0, .int .u8 0, .int .u8 0, .int .u8 0, .int .u8 0, .int .u8 0, .int .u8 0, .int .u8 0, .int .u8 0, .int .u8 0, .int .u8 0, .int .u8 0, .int .u8 0, .int .u8 0, .int .u8 0, .int .u8 0, .int .u8 0, .int .u8 0, .int .u8 0, .int .u8 0, .int .u8 0, .int .u8 0, .int .u8 0, .int .u8 0, .int .u8 0, .int .u8 0, .int .u8 0, .int .u8 0, .int .u8 0, .int .u8 0, .int .u8 0, .int .u8 0, .int .u8 0, .int .u8 0, .int .u64 0]) W := by kernel_rfl

theorem zero_block (W : World) : HB (W.alloc (.cells #[.int .u32 0, .int .u32 0, .int .u32 0, .int .u32 0, .int .u32 0, .int .u32 0, .int .u32 0, .int .u32 0, .int .u8 0, .int .u8 0, .int .u8 0, .int .u8 0, .int .u8 0, .int .u8 0, .int .u8 0, .int .u8 0, .int .u8 0, .int .u8 0, .int .u8 0, .int .u8 0, .int .u8 0, .int .u8 0, .int .u8 0, .int .u8 0, .int .u8 0, .int .u8 0, .int .u8 0, .int .u8 0, .int .u8 0, .int .u8 0, .int .u8 0, .int .u8 0, .int .u8 0, .int .u8 0, .int .u8 0, .int .u8 0, .int .u8 0, .int .u8 0, .int .u8 0, .int .u8 0, .int .u8 0, .int .u8 0, .int .u8 0, .int .u8 0, .int .u8 0, .int .u8 0, .int .u8 0, .int .u8 0, .int .u8 0, .int .u8 0, .int .u8 0, .int .u8 0, .int .u8 0, .int .u8 0, .int .u8 0, .int .u8 0, .int .u8 0, .int .u8 0, .int .u8 0, .int .u8 0, .int .u8 0, .int .u8 0, .int .u8 0, .int .u8 0, .int .u8 0, .int .u8 0, .int .u8 0, .int .u8 0, .int .u8 0, .int .u8 0, .int .u8 0, .int .u8 0, .int .u64 0] 154)) W.heap.size (List.replicate 8 0) (List.replicate 64 0) 0 := Block.new W _ _

set_option maxRecDepth 100000 in
set_option maxHeartbeats 1600000 in
theorem new_any (w : World) :
    Calls Tryd.prog 65 #[] w fun e w' => e = .returned (.pointer (some ⟨w.heap.size, 0, none⟩)) ∧ HashIs w' w.heap.size [] ∧ Below w.heap.size w w' := by
  have hz := zero_hash
  go_enter Tryd.func65, Tryd.ntmps65
  go_wp2_with fail
  go_ret
  exact ⟨rfl, ⟨List.replicate 64 0, Block.new w _ _, rfl, rfl⟩, (Below.refl _ _).alloc (Nat.le_refl _) _⟩

end Go.Proofs.YtpnodocjpedcmaaDoor.Sha

namespace Go.Proofs.YtpnodocjpedcmaaDoor.Sha
open Go.ChangeShapes Go.WideShapes Go.ChangeAt Go.RowKit Go.Proofs.YtpnodocjpedcmaaDoor.Kit

/-- What a slice reads lies in another block. -/
def Far (g : Nat) (A : Option Addr) (xs : List Int) : Prop := 0 < xs.length → ∀ a, A = some a → a.block ≠ g
theorem holds_from {w : World} {B : Nat} {k : IntKind} {A : Option Addr} {c q : Nat} {xs : List Int} (h : Holds w B k A xs) (hc : xs.length ≤ c) : Holds w B k (if c = q then A else A.map fun x => x.add q) (xs.drop q) := by
  intro hx
  rw [List.length_drop] at hx
  obtain ⟨b, off, rfl, hb, hcs⟩ := h (by omega)
  rw [if_neg (by omega)]
  refine ⟨b, off + q, by simp only [Option.map_some, Addr.add]; split <;> simp_all, hb, fun j hj => ?_⟩
  rw [List.length_drop] at hj
  rw [Nat.add_assoc, hcs (q + j) (by omega)]
  simp [List.getD]
theorem Far.from_ {g : Nat} {A : Option Addr} {c q : Nat} {xs : List Int} (h : Far g A xs) (hc : xs.length ≤ c) : Far g (if c = q then A else A.map fun x => x.add q) (xs.drop q) := by
  intro hx a ha
  rw [List.length_drop] at hx
  rw [if_neg (by omega)] at ha
  cases A with
  | none => simp at ha
  | some x =>
    have := h (by omega) x rfl
    simp only [Option.map_some, Option.some.injEq] at ha
    subst ha
    unfold Addr.add
    split <;> exact this
/-- What lies in another block stays. -/
theorem holds_far {w w' : World} {k : IntKind} {A : Option Addr} {xs : List Int} {g : Nat} (h : Holds w w.heap.size k A xs) (hf : Far g A xs) (ho : TurnsIn (· = g) w w') : Holds w' w'.heap.size k A xs := by
  intro hx
  obtain ⟨b, off, rfl, hb, hc⟩ := h hx
  refine ⟨b, off, rfl, Nat.lt_of_lt_of_le hb ho.size, fun j hj => ?_⟩
  have hne : b ≠ g := hf hx _ rfl
  exact (World.cell?_of_block (ho.block b hb hne)).trans (hc j hj)

/-- copy into the middle of a block. -/
theorem wpList_copy_mid {P : Program} {w : World} {ops : Array Oper} {rest : List Oper} {o : Oper} {a : Act} {Q : Exit → Act → World → Prop} (hgd : o.guard = none) (d s : Operand) (t : TypeId)
    (ho : o.op = .call { callee := .builtin .copy, args := #[d, s], argTypes := #[t, t] }) {e : TypeId} {k : IntKind} {bytes : Nat} (he : IntElem P t e k bytes)
    {g off dLen dCap : Nat} (hd : a.eval d = .slice (some ⟨g, off, none⟩) dLen dCap) {B : Nat} {A : Option Addr} {ys : List Int} {c : Nat} (hs : a.eval s = .slice A ys.length c) (hr : Holds w B k A ys)
    {tg : TypeId} {cur : List Value} (hg : Block w g tg cur.toArray) (hfit : off + dLen ≤ cur.length)
    (h : ∀ w', Block w' g tg (cur.take off ++ ((ys.take dLen).map (Value.int k) ++ cur.drop (off + (ys.take dLen).length))).toArray → w.grownBy w' (some g) → wpList P ops Q rest (a.put o.dst (goInt (ys.take dLen).length)) w') :
    wpList P ops Q (o :: rest) a w := by
  obtain ⟨ht, hinfo, hb8⟩ := he
  obtain ⟨i, hi, hz, hsi, hby⟩ := info_parts hinfo
  have hsz : (P.info? e).map (·.size) = some 1 := by rw [hi]; simp [hsi]
  have hmin : (ys.take dLen).length = Nat.min ys.length dLen := by rw [List.length_take]; exact Nat.min_comm _ _
  rcases Nat.eq_zero_or_pos (Nat.min ys.length dLen) with h0 | h0
  · have e0 : ys.take dLen = [] := List.eq_nil_of_length_eq_zero (by omega)
    refine wpList_copy_nothing hgd d s t t ho e ht hsz _ _ _ _ _ _ hd hs h0 ?_
    have := h w (by rw [e0]; simpa using hg) (World.grownBy.refl w _)
    rw [e0] at this
    exact this
  · have hyl : 0 < ys.length := by rw [← hmin, List.length_take] at h0; omega
    obtain ⟨b, o2, rfl, hb, hc⟩ := hr hyl
    refine wpList_copy_own hgd d s t t ho e ht hsz g off dLen dCap ⟨b, o2, none⟩ ys.length c hd hs cur.toArray tg hg ((ys.take dLen).map (Value.int k)) (by rw [List.length_map, hmin]) ?_ (by simp; omega) (ints_one k _) ?_
    · intro j u hu
      obtain ⟨hj, rfl⟩ := get_ints hu
      rw [List.length_take] at hj
      rw [add_plain, hc j (by omega)]
      simp [List.getD, show j < dLen by omega]
    · have hh := h (w.setRow g (cur.take off ++ ((ys.take dLen).map (Value.int k) ++ cur.drop (off + (ys.take dLen).length))).toArray) (setRow_heap w g _ _ tg _ hg)
        ⟨rfl, rfl, rfl, by simp [World.setRow], fun j _ hj => setRow_other w g j _ (fun e => hj (by rw [e]))⟩
      simpa using hh

theorem HB.copied {w : World} {g : Nat} {st rest : List Int} {n : Int} {zs : List Int} {q : Nat} (hs : st.length = 8) (hr : rest.length = 64) (hq : q + zs.length ≤ 64)
    (h : Block w g 154 ((hcells st rest n).take (8 + q) ++ (zs.map (Value.int .u8) ++ (hcells st rest n).drop (8 + q + zs.length))).toArray) : HB w g st (rest.take q ++ (zs ++ rest.drop (q + zs.length))) n := by
  rw [hcells_splice hs hr hq] at h
  exact h

theorem elem8 : IntElem Tryd.prog 22 5 .u8 1 := ⟨Tryd.underlying22, by kernel_rfl, by decide⟩

/-- mix, of a hash's own block. -/
theorem mix_own {g : Nat} {S blk : List Int} {N : Int} (hS : St8 S) (hbl : blk.length = 64) (hbo : Octets blk) (W : World) (h : HB W g S blk N) (hL : LaidS W) :
    Calls Tryd.prog 88 #[arrV .u32 S, .slice (some ⟨g, 8, none⟩) 64 64] W fun e w' => e = .returned (arrV .u32 (mixS S blk)) ∧ Below W.heap.size W w' ∧ HB w' g S blk N :=
  (mix_any S hS _ blk 64 W hbl (by omega) (by unfold maxLen; omega) hbo (h.restHolds hS.1 hbl) hL).mono fun _ _ ⟨he, hb⟩ => ⟨he, hb, h.below hb h.lt⟩

/-- mix, of bytes elsewhere. -/
theorem mix_far {g : Nat} {S blk rest : List Int} {N : Int} {A : Option Addr} {c : Nat} (hS : St8 S) (hbl : blk.length = 64) (hbo : Octets blk) (W : World) (hc : 64 ≤ c) (hm : c ≤ 2 ^ 63 - 1) (hH : Holds W W.heap.size .u8 A blk) (h : HB W g S rest N) (hL : LaidS W) :
    Calls Tryd.prog 88 #[arrV .u32 S, .slice A 64 c] W fun e w' => e = .returned (arrV .u32 (mixS S blk)) ∧ Below W.heap.size W w' ∧ HB w' g S rest N :=
  (mix_any S hS _ blk c W hbl hc (by unfold maxLen; omega) hbo hH hL).mono fun _ _ ⟨he, hb⟩ => ⟨he, hb, h.below hb h.lt⟩
theorem holds_take {w : World} {B : Nat} {k : IntKind} {A : Option Addr} {q : Nat} {xs : List Int} (h : Holds w B k A xs) : Holds w B k A (xs.take q) := by
  intro hx
  rw [List.length_take] at hx
  obtain ⟨b, off, rfl, hb, hcs⟩ := h (by omega)
  refine ⟨b, off, rfl, hb, fun j hj => ?_⟩
  rw [List.length_take] at hj
  rw [hcs j (by omega)]
  simp [List.getD, show j < q by omega]

theorem eight_sets (w : World) (g : Nat) (v0 v1 v2 v3 v4 v5 v6 v7 : Value) : ((((((((w.setCell ⟨g, 0, none⟩ v0).setCell ⟨g, 1, none⟩ v1).setCell ⟨g, 2, none⟩ v2).setCell ⟨g, 3, none⟩ v3).setCell ⟨g, 4, none⟩ v4).setCell ⟨g, 5, none⟩ v5).setCell ⟨g, 6, none⟩ v6).setCell ⟨g, 7, none⟩ v7) = w.setCells g 0 [v0, v1, v2, v3, v4, v5, v6, v7] := rfl

theorem st_cells {w : World} {g : Nat} {a b c d e f x y : Int} {rest : List Int} {N : Int} (h : HB w g [a, b, c, d, e, f, x, y] rest N) :
    (w.cell? ⟨g, 0, none⟩ = some (.int .u32 a) ∧ w.cell? ⟨g, 1, none⟩ = some (.int .u32 b) ∧ w.cell? ⟨g, 2, none⟩ = some (.int .u32 c) ∧ w.cell? ⟨g, 3, none⟩ = some (.int .u32 d) ∧
    w.cell? ⟨g, 4, none⟩ = some (.int .u32 e) ∧ w.cell? ⟨g, 5, none⟩ = some (.int .u32 f) ∧ w.cell? ⟨g, 6, none⟩ = some (.int .u32 x) ∧ w.cell? ⟨g, 7, none⟩ = some (.int .u32 y)) ∧
    (w.frozen? ⟨g, 0, none⟩ = false ∧ w.frozen? ⟨g, 1, none⟩ = false ∧ w.frozen? ⟨g, 2, none⟩ = false ∧ w.frozen? ⟨g, 3, none⟩ = false ∧
    w.frozen? ⟨g, 4, none⟩ = false ∧ w.frozen? ⟨g, 5, none⟩ = false ∧ w.frozen? ⟨g, 6, none⟩ = false ∧ w.frozen? ⟨g, 7, none⟩ = false) :=
  ⟨⟨h.stCell rfl (i := 0) (by omega), h.stCell rfl (i := 1) (by omega), h.stCell rfl (i := 2) (by omega), h.stCell rfl (i := 3) (by omega), h.stCell rfl (i := 4) (by omega), h.stCell rfl (i := 5) (by omega), h.stCell rfl (i := 6) (by omega), h.stCell rfl (i := 7) (by omega)⟩,
   ⟨h.frozen 0, h.frozen 1, h.frozen 2, h.frozen 3, h.frozen 4, h.frozen 5, h.frozen 6, h.frozen 7⟩⟩

theorem turns_drew {S : Nat → Prop} {w w' : World} (h : TurnsIn S w w') : TurnsIn S w w'.drew := ⟨h.os, h.tape, h.output, h.size, h.block⟩

theorem turns_cells (g : Nat) (w : World) (vs : List Value) : TurnsIn (· = g) w (w.setCells g 0 vs) := TurnsIn.ofGrown (setCells_grown g vs 0 w) fun b hb => by injection hb with hb; exact hb.symm

/-- How far the loop over whole blocks is. -/
def WRel (g : Nat) (xs bs : List Int) (w : World) (v : Value) (wr : World) : Prop :=
  ∃ (ys zs : List Int) (A' : Option Addr) (c' : Nat) (rest : List Int), v = .slice A' zs.length c' ∧ xs ++ bs = ys ++ zs ∧ ys.length % 64 = 0 ∧ zs.length ≤ c' ∧ c' ≤ maxLen ∧ Octets zs ∧ Holds wr wr.heap.size .u8 A' zs ∧ Far g A' zs ∧
    HB wr g (stateL ys) rest ((xs.length : Int) + bs.length) ∧ rest.length = 64 ∧ TurnsIn (· = g) w wr
/-- How many are left. -/
def leftOf (v : Value) : Nat := match v with | .slice _ n _ => n | _ => 0

theorem LaidS.turns {w w' : World} {g : Nat} (hL : LaidS w) (ht : TurnsIn (· = g) w w') (hg0 : g ≠ 0) : LaidS w' := fun k hk => by
  rw [← hL k hk]
  exact World.cell?_of_block (ht.block _ (hL.lt (by rw [cubes_length]; omega)) (fun e => hg0 e.symm))

set_option maxRecDepth 100000 in
set_option maxHeartbeats 6400000 in
theorem write_any (g : Nat) (xs : List Int) (A : Option Addr) (bs : List Int) (c : Nat) (w : World) (h : HashIs w g xs) (hlen : xs.length + bs.length ≤ 1099511627776) (hxo : Octets xs) (hc : bs.length ≤ c) (hm : c ≤ maxLen) (ho : Octets bs)
    (hr : Holds w w.heap.size .u8 A bs) (hf : Far g A bs) (hL : LaidS w) (hg0 : g ≠ 0) :
    Calls Tryd.prog 67 #[.pointer (some ⟨g, 0, none⟩), .slice A bs.length c] w fun e w' => e = .returned (.tuple #[]) ∧ HashIs w' g (xs ++ bs) ∧ TurnsIn (· = g) w w' := by
  obtain ⟨r, h1, h2, h3⟩ := h.ex
  have hst := stateL_st xs
  have kt := h1.taken hst.1 h2
  have kf := h1.frozen 72
  have kf := kf
  have hd1 := HB.setTaken h1 hst.1 h2 ((xs.length : Int) + bs.length)
  have hsz : g < w.heap.size := h1.lt
  have t1 : TurnsIn (· = g) w (w.setCell ⟨g, 72, none⟩ (.int .u64 ((xs.length : Int) + bs.length))) := TurnsIn.setCell (p := ⟨g, 72, none⟩) (TurnsIn.refl (· = g) w) (.inl rfl) _
  have q0 : (0 : Int) ≤ (xs.length : Int) % 64 := by omega
  have q1 : (xs.length : Int) % 64 ≤ 64 := by omega
  clear h1 h
  unfold maxLen at hm
  have hr1 := holds_far hr hf t1
  by_cases hq : xs.length % 64 = 0
  · have d0 : decide ((0 : Int) < (xs.length : Int) % 64) = false := by rw [decide_eq_false_iff_not]; omega
    have hstart : WRel g xs bs w (.slice A bs.length c) (w.setCell ⟨g, 72, none⟩ (.int .u64 ((xs.length : Int) + bs.length))) :=
      ⟨xs, bs, A, c, r, rfl, rfl, hq, hc, by unfold maxLen; omega, ho, hr1, hf, hd1, h2, t1⟩
    have hstart := Lib.hid hstart
    clear hq hr1 hd1 t1 h2 h3 hst
    go_enter Tryd.func67, Tryd.ntmps67
    go_wp2_with fail
    go_loopw [1] (fun v wr => WRel g xs bs w v wr) (fun v _ => leftOf v)
    case atStart => exact hstart.out
    case round =>
      clear hstart
      obtain ⟨ys, zs, A', c', rest, rfl, hsp, hy, hc', hm', hoz, hrz, hfz, hb, hrl, ht⟩ := hrel
      unfold maxLen at hm'
      by_cases h64 : 64 ≤ zs.length
      · have hbl : (zs.take 64).length = 64 := by rw [List.length_take]; omega
        have hS := stateL_block (ys := ys) (zs := zs.take 64) hy hbl
        have hst := stateL_st ys
        have hbo : Octets (zs.take 64) := hoz.head 64
        have hLr := hL.turns ht hg0
        have hdl : (zs.drop 64).length = zs.length - 64 := List.length_drop
        have hfr := Far.from_ (q := 64) hfz hc'
        have hfh := fun W (h : Holds W W.heap.size .u8 A' zs) => holds_from (q := 64) h hc'
        have hhd := holds_take (q := 64) hrz
        have hsp2 : xs ++ bs = (ys ++ zs.take 64) ++ zs.drop 64 := by rw [hsp, List.append_assoc, List.take_append_drop]
        have hy2 : (ys ++ zs.take 64).length % 64 = 0 := by rw [List.length_append, hbl]; omega
        have hod := hoz.tail 64
        generalize stateL ys = S0 at *
        obtain ⟨a0, a1, a2, a3, a4, a5, a6, a7, rfl, _⟩ := hst.open_
        obtain ⟨s0, s1, s2, s3, s4, s5, s6, s7, hmx, _⟩ := (mixS_st (zs.take 64) hst).open_
        have GM : ∀ W, Holds W W.heap.size .u8 A' (zs.take 64) → HB W g [a0, a1, a2, a3, a4, a5, a6, a7] rest ((xs.length : Int) + bs.length) → LaidS W → Calls Tryd.prog 88 #[.agg #[.int .u32 a0, .int .u32 a1, .int .u32 a2, .int .u32 a3, .int .u32 a4, .int .u32 a5, .int .u32 a6, .int .u32 a7], .slice A' 64 c'] W fun e w' => e = .returned (.agg #[.int .u32 s0, .int .u32 s1, .int .u32 s2, .int .u32 s3, .int .u32 s4, .int .u32 s5, .int .u32 s6, .int .u32 s7]) ∧ Below W.heap.size W w' ∧ HB w' g [a0, a1, a2, a3, a4, a5, a6, a7] rest ((xs.length : Int) + bs.length) := fun W hH hW hLW => by
          have h := mix_far hst hbl hbo W (c := c') (by omega) hm' hH hW hLW
          rw [hmx] at h
          exact h
        rw [hmx] at hS
        have HS := Lib.hid hS
        have GM := Lib.hid GM
        have Hdl := Lib.hid hdl
        have Hsp := Lib.hid hsp2
        have Hy := Lib.hid hy2
        have Hrl := Lib.hid hrl
        clear hmx hS hdl hsp hsp2 hy2 hbl hy hrl
        obtain ⟨⟨c0, c1, c2, c3, c4, c5, c6, c7⟩, _⟩ := st_cells hb
        have h64c : 64 ≤ c' := by omega
        have h64i : (64 : Int) ≤ (c' : Int) := by omega
        go_wp2_with fail
        go_region_with (go_at_call 88; refine (GM.out _ (by exact hhd) (by exact hb) (by exact hLr)).mono ?_; rintro e w3 ⟨rfl, hb3, b4⟩; obtain ⟨⟨e0, e1, e2, e3, e4, e5, e6, e7⟩, ⟨f0, f1, f2, f3, f4, f5, f6, f7⟩⟩ := st_cells b4)
        have b5 : HB (w3.setCells g 0 [.int .u32 s0, .int .u32 s1, .int .u32 s2, .int .u32 s3, .int .u32 s4, .int .u32 s5, .int .u32 s6, .int .u32 s7]) g [s0, s1, s2, s3, s4, s5, s6, s7] rest ((xs.length : Int) + bs.length) := HB.setState (s2 := [s0, s1, s2, s3, s4, s5, s6, s7]) b4 rfl rfl
        rw [eight_sets]
        have t3 : TurnsIn (· = g) w w3 := (turns_drew ht).trans (TurnsIn.ofNew hb3)
        have t3r : TurnsIn (· = g) wr w3 := (turns_drew (TurnsIn.refl _ wr)).trans (TurnsIn.ofNew hb3)
        have t5 : TurnsIn (· = g) w (w3.setCells g 0 [.int .u32 s0, .int .u32 s1, .int .u32 s2, .int .u32 s3, .int .u32 s4, .int .u32 s5, .int .u32 s6, .int .u32 s7]) := t3.trans (turns_cells g w3 _)
        have t5r : TurnsIn (· = g) wr (w3.setCells g 0 [.int .u32 s0, .int .u32 s1, .int .u32 s2, .int .u32 s3, .int .u32 s4, .int .u32 s5, .int .u32 s6, .int .u32 s7]) := t3r.trans (turns_cells g w3 _)
        clear t3 t3r b4 hb3 GM e0 e1 e2 e3 e4 e5 e6 e7 f0 f1 f2 f3 f4 f5 f6 f7 c0 c1 c2 c3 c4 c5 c6 c7 hLr hb hhd
        generalize w3.setCells g 0 [.int .u32 s0, .int .u32 s1, .int .u32 s2, .int .u32 s3, .int .u32 s4, .int .u32 s5, .int .u32 s6, .int .u32 s7] = w5 at *
        have hr5 := hfh w5 (holds_far hrz hfz t5r)
        clear hfh hrz
        have R5 : WRel g xs bs w (.slice (if c' = 64 then A' else A'.map fun x => x.add 64) (zs.length - 64) (c' - 64)) w5 :=
          ⟨ys ++ zs.take 64, zs.drop 64, _, c' - 64, rest, by rw [Hdl.out], Hsp.out, Hy.out, by rw [Hdl.out]; omega, by unfold maxLen; omega, hod, hr5, hfr, by rw [HS.out]; exact b5, Hrl.out, t5⟩
        by_cases hcm : c' = 64
        · rw [if_pos hcm] at R5
          subst hcm
          rw [show zs.length - 64 = 0 by omega, Nat.sub_self] at R5
          have HR := Lib.hid R5
          clear R5 hr5 hfr
          go_wp2_with fail
          go_roundw
          case rel => exact HR.out
          case measure => simp [leftOf] <;> omega
        · rw [if_neg hcm] at R5
          have HR := Lib.hid R5
          clear R5 hr5 hfr
          go_wp2_with fail
          go_roundw
          case rel => exact HR.out
          case measure => simp [leftOf] <;> omega
      · have hez : zs.take 64 = zs := List.take_of_length_le (by omega)
        have hst := stateL_st ys
        have hcop := fun (w2 : World) => HB.copied (w := w2) (g := g) (rest := rest) (n := (xs.length : Int) + bs.length) (zs := zs.take 64) hst.1 hrl (q := 0) (by rw [hez]; omega)
        rw [hez] at hcop
        have hS := stateL_part (zs := zs) hy (by omega)
        have hla := rest_last (r := rest.drop (0 + zs.length)) hy (zs := zs) (by omega)
        have hNN : (xs.length : Int) + bs.length = ((xs ++ bs).length : Int) := by simp
        have Hez := Lib.hid hez
        have HN := Lib.hid hNN
        have Hcop := Lib.hid hcop
        have HS := Lib.hid hS
        have Hla := Lib.hid hla
        have Hsp := Lib.hid hsp
        have Hrl := Lib.hid hrl
        clear hez hNN hcop hS hla hsp hy hrl
        go_wp2_with (refine wpList_copy_mid rfl _ _ _ rfl elem8 rfl rfl hrz hb (by rw [hcells_length _ hst.1 Hrl.out]; omega) ?_; rw [Hez.out]; intro w6 b6 g6)
        go_end0
        refine ⟨rfl, ⟨_, ?_, ?_, by rw [Hsp.out]; exact Hla.out⟩, ht.trans (TurnsIn.ofGrown g6 fun b hb => by injection hb with hb; exact hb.symm)⟩
        · have b7 := Hcop.out w6 b6
          rw [HN.out] at b7
          rw [Hsp.out] at b7 ⊢
          rw [HS.out]
          exact b7
        · have := Hrl.out
          simp only [List.length_append, List.length_drop]; omega
  · have d0 : decide ((0 : Int) < (xs.length : Int) % 64) = true := by rw [decide_eq_true_eq]; omega
    have tn : ((xs.length : Int) % 64).toNat = xs.length % 64 := by omega
    have q2 : ¬ (64 = xs.length % 64) := by omega
    have Hq := Lib.hid hq
    clear hq
    have hzb : (bs.take (64 - xs.length % 64)).length = min (64 - xs.length % 64) bs.length := List.length_take
    by_cases hs : bs.length < 64 - xs.length % 64
    · have ez : bs.take (64 - xs.length % 64) = bs := List.take_of_length_le (by omega)
      have d1 : decide ((xs.length : Int) % 64 + (bs.length : Int) < 64) = true := by rw [decide_eq_true_eq]; omega
      have Hez := Lib.hid ez
      clear ez hzb
      go_enter Tryd.func67, Tryd.ntmps67
      go_wp2_with (refine wpList_copy_mid rfl _ _ _ rfl elem8 rfl rfl hr1 hd1 (by rw [hcells_length _ hst.1 h2]; omega) ?_; rw [Hez.out]; intro w2 b2 g2)
      refine bodyPost_ret (results_none rfl _ _ _) rfl ⟨rfl, ⟨_, ?_, ?_, rest_next h2 h3 (by have := Hq.out; omega)⟩, t1.trans (TurnsIn.ofGrown g2 fun b hb => by injection hb with hb; exact hb.symm)⟩
      · have b3 := HB.copied hst.1 h2 (by omega) b2
        rw [state_same (by omega), List.length_append, Int.natCast_add]
        exact b3
      · simp only [List.length_append, List.length_take, List.length_drop]; omega
    · have hzl : (bs.take (64 - xs.length % 64)).length = 64 - xs.length % 64 := by rw [List.length_take]; omega
      have hsp : bs.take (64 - xs.length % 64) ++ bs.drop (64 - xs.length % 64) = bs := List.take_append_drop _ _
      have hcop := fun (w2 : World) => HB.copied (w := w2) (g := g) (rest := r) (n := (xs.length : Int) + bs.length) (zs := bs.take (64 - xs.length % 64)) hst.1 h2 (q := xs.length % 64) (by omega)
      rw [rest_full h3 h2 (by omega)] at hcop
      have hS := state_full (xs := xs) (zs := bs.take (64 - xs.length % 64)) (by omega)
      have hbl : (xs.drop (64 * (xs.length / 64)) ++ bs.take (64 - xs.length % 64)).length = 64 := by simp; omega
      have hbo : Octets (xs.drop (64 * (xs.length / 64)) ++ bs.take (64 - xs.length % 64)) := by
        intro x hx
        rcases List.mem_append.1 hx with hx | hx
        · exact hxo x (List.mem_of_mem_drop hx)
        · exact ho x (List.mem_of_mem_take hx)
      have hdl : (bs.drop (64 - xs.length % 64)).length = bs.length - (64 - xs.length % 64) := List.length_drop
      have d1 : decide ((xs.length : Int) % 64 + ((64 - xs.length % 64 : Nat) : Int) < 64) = false := by rw [decide_eq_false_iff_not]; omega
      have hfr := Far.from_ (q := 64 - xs.length % 64) hf hc
      have hfh := fun W (h : Holds W W.heap.size .u8 A bs) => holds_from (q := 64 - xs.length % 64) h hc
      have hm1 : 64 - xs.length % 64 ≤ bs.length := by omega
      have hm2 : xs.length % 64 + (64 - xs.length % 64) = 64 := by omega
      generalize xs.drop (64 * (xs.length / 64)) ++ bs.take (64 - xs.length % 64) = blk at *
      have Hzl := Lib.hid hzl
      have Hsp := Lib.hid hsp
      have Hcop := Lib.hid hcop
      have HS := Lib.hid hS
      have Hbl := Lib.hid hbl
      have Hdl := Lib.hid hdl
      have hyl : (xs ++ bs.take (64 - xs.length % 64)).length % 64 = 0 := by rw [List.length_append, Hzl.out]; omega
      have Hyl := Lib.hid hyl
      clear hyl
      clear hzl hsp hcop hS hzb hbl hdl
      go_enter Tryd.func67, Tryd.ntmps67
      go_wp2_with (refine wpList_copy_mid rfl _ _ _ rfl elem8 rfl rfl hr1 hd1 (by rw [hcells_length _ hst.1 h2]; omega) ?_; intro w2 b2 g2; have b3 := Hcop.out w2 b2; clear b2; rw [Hzl.out])
      have t2 : TurnsIn (· = g) w w2 := t1.trans (TurnsIn.ofGrown g2 fun b hb => by injection hb with hb; exact hb.symm)
      have hL2 := hL.turns t2 hg0
      clear g2 hr1 hd1 t1 kt kf
      generalize stateL xs = S0 at *
      obtain ⟨a0, a1, a2, a3, a4, a5, a6, a7, rfl, _⟩ := hst.open_
      obtain ⟨s0, s1, s2, s3, s4, s5, s6, s7, hmx, _⟩ := (mixS_st blk hst).open_
      have GM : ∀ W, HB W g [a0, a1, a2, a3, a4, a5, a6, a7] blk ((xs.length : Int) + bs.length) → LaidS W → Calls Tryd.prog 88 #[.agg #[.int .u32 a0, .int .u32 a1, .int .u32 a2, .int .u32 a3, .int .u32 a4, .int .u32 a5, .int .u32 a6, .int .u32 a7], .slice (some ⟨g, 8, none⟩) 64 64] W fun e w' => e = .returned (.agg #[.int .u32 s0, .int .u32 s1, .int .u32 s2, .int .u32 s3, .int .u32 s4, .int .u32 s5, .int .u32 s6, .int .u32 s7]) ∧ Below W.heap.size W w' ∧ HB w' g [a0, a1, a2, a3, a4, a5, a6, a7] blk ((xs.length : Int) + bs.length) := fun W hW hLW => by
        have h := mix_own hst Hbl.out hbo W hW hLW
        rw [hmx] at h
        exact h
      have GM := Lib.hid GM
      rw [hmx] at HS
      clear hmx
      obtain ⟨⟨c0, c1, c2, c3, c4, c5, c6, c7⟩, _⟩ := st_cells b3
      go_region_with (go_at_call 88; refine (GM.out _ (by exact b3) (by exact hL2)).mono ?_; rintro e w3 ⟨rfl, hb3, b4⟩; obtain ⟨⟨e0, e1, e2, e3, e4, e5, e6, e7⟩, ⟨f0, f1, f2, f3, f4, f5, f6, f7⟩⟩ := st_cells b4)
      have b5 : HB (w3.setCells g 0 [.int .u32 s0, .int .u32 s1, .int .u32 s2, .int .u32 s3, .int .u32 s4, .int .u32 s5, .int .u32 s6, .int .u32 s7]) g [s0, s1, s2, s3, s4, s5, s6, s7] blk ((xs.length : Int) + bs.length) := HB.setState (s2 := [s0, s1, s2, s3, s4, s5, s6, s7]) b4 rfl rfl
      rw [eight_sets]
      have t3 : TurnsIn (· = g) w w3 := (turns_drew t2).trans (TurnsIn.ofNew hb3)
      have t5 : TurnsIn (· = g) w (w3.setCells g 0 [.int .u32 s0, .int .u32 s1, .int .u32 s2, .int .u32 s3, .int .u32 s4, .int .u32 s5, .int .u32 s6, .int .u32 s7]) := t3.trans (turns_cells g w3 _)
      clear t2 t3 b3 b4 hb3 GM e0 e1 e2 e3 e4 e5 e6 e7 f0 f1 f2 f3 f4 f5 f6 f7 c0 c1 c2 c3 c4 c5 c6 c7 hL2
      generalize w3.setCells g 0 [.int .u32 s0, .int .u32 s1, .int .u32 s2, .int .u32 s3, .int .u32 s4, .int .u32 s5, .int .u32 s6, .int .u32 s7] = w5 at *
      have hr5 := hfh w5 (holds_far hr hf t5)
      generalize 64 - xs.length % 64 = m at *
      have R5 : WRel g xs bs w (.slice (if c = m then A else A.map fun x => x.add m) (bs.length - m) (c - m)) w5 :=
        ⟨xs ++ bs.take m, bs.drop m, _, c - m, blk, by rw [Hdl.out], by rw [List.append_assoc, Hsp.out], Hyl.out, by rw [Hdl.out]; omega, by unfold maxLen; omega, ho.tail m, hr5, hfr, by rw [HS.out]; exact b5, Hbl.out, t5⟩
      clear hfh hr5 hfr
      by_cases hcm : c = m
      · rw [if_pos hcm] at R5
        subst hcm
        rw [show bs.length - c = 0 by omega, Nat.sub_self] at R5
        have hstart := Lib.hid R5
        clear R5
        go_wp2_with fail
        go_loopw [1] (fun v wr => WRel g xs bs w v wr) (fun v _ => leftOf v)
        case atStart => exact hstart.out
        case round =>
          clear hstart Hsp HS Hdl Hyl Hbl hst b5 t5
          obtain ⟨ys, zs, A', c', rest, rfl, hsp, hy, hc', hm', hoz, hrz, hfz, hb, hrl, ht⟩ := hrel
          unfold maxLen at hm'
          by_cases h64 : 64 ≤ zs.length
          · have hbl : (zs.take 64).length = 64 := by rw [List.length_take]; omega
            have hS := stateL_block (ys := ys) (zs := zs.take 64) hy hbl
            have hst := stateL_st ys
            have hbo : Octets (zs.take 64) := hoz.head 64
            have hLr := hL.turns ht hg0
            have hdl : (zs.drop 64).length = zs.length - 64 := List.length_drop
            have hfr := Far.from_ (q := 64) hfz hc'
            have hfh := fun W (h : Holds W W.heap.size .u8 A' zs) => holds_from (q := 64) h hc'
            have hhd := holds_take (q := 64) hrz
            have hsp2 : xs ++ bs = (ys ++ zs.take 64) ++ zs.drop 64 := by rw [hsp, List.append_assoc, List.take_append_drop]
            have hy2 : (ys ++ zs.take 64).length % 64 = 0 := by rw [List.length_append, hbl]; omega
            have hod := hoz.tail 64
            generalize stateL ys = S0 at *
            obtain ⟨a0, a1, a2, a3, a4, a5, a6, a7, rfl, _⟩ := hst.open_
            obtain ⟨s0, s1, s2, s3, s4, s5, s6, s7, hmx, _⟩ := (mixS_st (zs.take 64) hst).open_
            have GM : ∀ W, Holds W W.heap.size .u8 A' (zs.take 64) → HB W g [a0, a1, a2, a3, a4, a5, a6, a7] rest ((xs.length : Int) + bs.length) → LaidS W → Calls Tryd.prog 88 #[.agg #[.int .u32 a0, .int .u32 a1, .int .u32 a2, .int .u32 a3, .int .u32 a4, .int .u32 a5, .int .u32 a6, .int .u32 a7], .slice A' 64 c'] W fun e w' => e = .returned (.agg #[.int .u32 s0, .int .u32 s1, .int .u32 s2, .int .u32 s3, .int .u32 s4, .int .u32 s5, .int .u32 s6, .int .u32 s7]) ∧ Below W.heap.size W w' ∧ HB w' g [a0, a1, a2, a3, a4, a5, a6, a7] rest ((xs.length : Int) + bs.length) := fun W hH hW hLW => by
              have h := mix_far hst hbl hbo W (c := c') (by omega) hm' hH hW hLW
              rw [hmx] at h
              exact h
            rw [hmx] at hS
            have HS := Lib.hid hS
            have GM := Lib.hid GM
            have Hdl := Lib.hid hdl
            have Hsp := Lib.hid hsp2
            have Hy := Lib.hid hy2
            have Hrl := Lib.hid hrl
            clear hmx hS hdl hsp hsp2 hy2 hbl hy hrl
            obtain ⟨⟨c0, c1, c2, c3, c4, c5, c6, c7⟩, _⟩ := st_cells hb
            have h64c : 64 ≤ c' := by omega
            have h64i : (64 : Int) ≤ (c' : Int) := by omega
            go_wp2_with fail
            go_region_with (go_at_call 88; refine (GM.out _ (by exact hhd) (by exact hb) (by exact hLr)).mono ?_; rintro e w3 ⟨rfl, hb3, b4⟩; obtain ⟨⟨e0, e1, e2, e3, e4, e5, e6, e7⟩, ⟨f0, f1, f2, f3, f4, f5, f6, f7⟩⟩ := st_cells b4)
            have b5 : HB (w3.setCells g 0 [.int .u32 s0, .int .u32 s1, .int .u32 s2, .int .u32 s3, .int .u32 s4, .int .u32 s5, .int .u32 s6, .int .u32 s7]) g [s0, s1, s2, s3, s4, s5, s6, s7] rest ((xs.length : Int) + bs.length) := HB.setState (s2 := [s0, s1, s2, s3, s4, s5, s6, s7]) b4 rfl rfl
            rw [eight_sets]
            have t3 : TurnsIn (· = g) w w3 := (turns_drew ht).trans (TurnsIn.ofNew hb3)
            have t3r : TurnsIn (· = g) wr w3 := (turns_drew (TurnsIn.refl _ wr)).trans (TurnsIn.ofNew hb3)
            have t5 : TurnsIn (· = g) w (w3.setCells g 0 [.int .u32 s0, .int .u32 s1, .int .u32 s2, .int .u32 s3, .int .u32 s4, .int .u32 s5, .int .u32 s6, .int .u32 s7]) := t3.trans (turns_cells g w3 _)
            have t5r : TurnsIn (· = g) wr (w3.setCells g 0 [.int .u32 s0, .int .u32 s1, .int .u32 s2, .int .u32 s3, .int .u32 s4, .int .u32 s5, .int .u32 s6, .int .u32 s7]) := t3r.trans (turns_cells g w3 _)
            clear t3 t3r b4 hb3 GM e0 e1 e2 e3 e4 e5 e6 e7 f0 f1 f2 f3 f4 f5 f6 f7 c0 c1 c2 c3 c4 c5 c6 c7 hLr hb hhd
            generalize w3.setCells g 0 [.int .u32 s0, .int .u32 s1, .int .u32 s2, .int .u32 s3, .int .u32 s4, .int .u32 s5, .int .u32 s6, .int .u32 s7] = w5 at *
            have hr5 := hfh w5 (holds_far hrz hfz t5r)
            clear hfh hrz
            have R5 : WRel g xs bs w (.slice (if c' = 64 then A' else A'.map fun x => x.add 64) (zs.length - 64) (c' - 64)) w5 :=
              ⟨ys ++ zs.take 64, zs.drop 64, _, c' - 64, rest, by rw [Hdl.out], Hsp.out, Hy.out, by rw [Hdl.out]; omega, by unfold maxLen; omega, hod, hr5, hfr, by rw [HS.out]; exact b5, Hrl.out, t5⟩
            by_cases hcm : c' = 64
            · rw [if_pos hcm] at R5
              subst hcm
              rw [show zs.length - 64 = 0 by omega, Nat.sub_self] at R5
              have HR := Lib.hid R5
              clear R5 hr5 hfr
              go_wp2_with fail
              go_roundw
              case rel => exact HR.out
              case measure => simp [leftOf] <;> omega
            · rw [if_neg hcm] at R5
              have HR := Lib.hid R5
              clear R5 hr5 hfr
              go_wp2_with fail
              go_roundw
              case rel => exact HR.out
              case measure => simp [leftOf] <;> omega
          · have hez : zs.take 64 = zs := List.take_of_length_le (by omega)
            have hst := stateL_st ys
            have hcop := fun (w2 : World) => HB.copied (w := w2) (g := g) (rest := rest) (n := (xs.length : Int) + bs.length) (zs := zs.take 64) hst.1 hrl (q := 0) (by rw [hez]; omega)
            rw [hez] at hcop
            have hS := stateL_part (zs := zs) hy (by omega)
            have hla := rest_last (r := rest.drop (0 + zs.length)) hy (zs := zs) (by omega)
            have hNN : (xs.length : Int) + bs.length = ((xs ++ bs).length : Int) := by simp
            have Hez := Lib.hid hez
            have HN := Lib.hid hNN
            have Hcop := Lib.hid hcop
            have HS := Lib.hid hS
            have Hla := Lib.hid hla
            have Hsp := Lib.hid hsp
            have Hrl := Lib.hid hrl
            clear hez hNN hcop hS hla hsp hy hrl
            go_wp2_with (refine wpList_copy_mid rfl _ _ _ rfl elem8 rfl rfl hrz hb (by rw [hcells_length _ hst.1 Hrl.out]; omega) ?_; rw [Hez.out]; intro w6 b6 g6)
            go_end0
            refine ⟨rfl, ⟨_, ?_, ?_, by rw [Hsp.out]; exact Hla.out⟩, ht.trans (TurnsIn.ofGrown g6 fun b hb => by injection hb with hb; exact hb.symm)⟩
            · have b7 := Hcop.out w6 b6
              rw [HN.out] at b7
              rw [Hsp.out] at b7 ⊢
              rw [HS.out]
              exact b7
            · have := Hrl.out
              simp only [List.length_append, List.length_drop]; omega
      · rw [if_neg hcm] at R5
        have hstart := Lib.hid R5
        clear R5
        go_wp2_with fail
        go_loopw [1] (fun v wr => WRel g xs bs w v wr) (fun v _ => leftOf v)
        case atStart => exact hstart.out
        case round =>
          clear hstart Hsp HS Hdl Hyl Hbl hst b5 t5
          obtain ⟨ys, zs, A', c', rest, rfl, hsp, hy, hc', hm', hoz, hrz, hfz, hb, hrl, ht⟩ := hrel
          unfold maxLen at hm'
          by_cases h64 : 64 ≤ zs.length
          · have hbl : (zs.take 64).length = 64 := by rw [List.length_take]; omega
            have hS := stateL_block (ys := ys) (zs := zs.take 64) hy hbl
            have hst := stateL_st ys
            have hbo : Octets (zs.take 64) := hoz.head 64
            have hLr := hL.turns ht hg0
            have hdl : (zs.drop 64).length = zs.length - 64 := List.length_drop
            have hfr := Far.from_ (q := 64) hfz hc'
            have hfh := fun W (h : Holds W W.heap.size .u8 A' zs) => holds_from (q := 64) h hc'
            have hhd := holds_take (q := 64) hrz
            have hsp2 : xs ++ bs = (ys ++ zs.take 64) ++ zs.drop 64 := by rw [hsp, List.append_assoc, List.take_append_drop]
            have hy2 : (ys ++ zs.take 64).length % 64 = 0 := by rw [List.length_append, hbl]; omega
            have hod := hoz.tail 64
            generalize stateL ys = S0 at *
            obtain ⟨a0, a1, a2, a3, a4, a5, a6, a7, rfl, _⟩ := hst.open_
            obtain ⟨s0, s1, s2, s3, s4, s5, s6, s7, hmx, _⟩ := (mixS_st (zs.take 64) hst).open_
            have GM : ∀ W, Holds W W.heap.size .u8 A' (zs.take 64) → HB W g [a0, a1, a2, a3, a4, a5, a6, a7] rest ((xs.length : Int) + bs.length) → LaidS W → Calls Tryd.prog 88 #[.agg #[.int .u32 a0, .int .u32 a1, .int .u32 a2, .int .u32 a3, .int .u32 a4, .int .u32 a5, .int .u32 a6, .int .u32 a7], .slice A' 64 c'] W fun e w' => e = .returned (.agg #[.int .u32 s0, .int .u32 s1, .int .u32 s2, .int .u32 s3, .int .u32 s4, .int .u32 s5, .int .u32 s6, .int .u32 s7]) ∧ Below W.heap.size W w' ∧ HB w' g [a0, a1, a2, a3, a4, a5, a6, a7] rest ((xs.length : Int) + bs.length) := fun W hH hW hLW => by
              have h := mix_far hst hbl hbo W (c := c') (by omega) hm' hH hW hLW
              rw [hmx] at h
              exact h
            rw [hmx] at hS
            have HS := Lib.hid hS
            have GM := Lib.hid GM
            have Hdl := Lib.hid hdl
            have Hsp := Lib.hid hsp2
            have Hy := Lib.hid hy2
            have Hrl := Lib.hid hrl
            clear hmx hS hdl hsp hsp2 hy2 hbl hy hrl
            obtain ⟨⟨c0, c1, c2, c3, c4, c5, c6, c7⟩, _⟩ := st_cells hb
            have h64c : 64 ≤ c' := by omega
            have h64i : (64 : Int) ≤ (c' : Int) := by omega
            go_wp2_with fail
            go_region_with (go_at_call 88; refine (GM.out _ (by exact hhd) (by exact hb) (by exact hLr)).mono ?_; rintro e w3 ⟨rfl, hb3, b4⟩; obtain ⟨⟨e0, e1, e2, e3, e4, e5, e6, e7⟩, ⟨f0, f1, f2, f3, f4, f5, f6, f7⟩⟩ := st_cells b4)
            have b5 : HB (w3.setCells g 0 [.int .u32 s0, .int .u32 s1, .int .u32 s2, .int .u32 s3, .int .u32 s4, .int .u32 s5, .int .u32 s6, .int .u32 s7]) g [s0, s1, s2, s3, s4, s5, s6, s7] rest ((xs.length : Int) + bs.length) := HB.setState (s2 := [s0, s1, s2, s3, s4, s5, s6, s7]) b4 rfl rfl
            rw [eight_sets]
            have t3 : TurnsIn (· = g) w w3 := (turns_drew ht).trans (TurnsIn.ofNew hb3)
            have t3r : TurnsIn (· = g) wr w3 := (turns_drew (TurnsIn.refl _ wr)).trans (TurnsIn.ofNew hb3)
            have t5 : TurnsIn (· = g) w (w3.setCells g 0 [.int .u32 s0, .int .u32 s1, .int .u32 s2, .int .u32 s3, .int .u32 s4, .int .u32 s5, .int .u32 s6, .int .u32 s7]) := t3.trans (turns_cells g w3 _)
            have t5r : TurnsIn (· = g) wr (w3.setCells g 0 [.int .u32 s0, .int .u32 s1, .int .u32 s2, .int .u32 s3, .int .u32 s4, .int .u32 s5, .int .u32 s6, .int .u32 s7]) := t3r.trans (turns_cells g w3 _)
            clear t3 t3r b4 hb3 GM e0 e1 e2 e3 e4 e5 e6 e7 f0 f1 f2 f3 f4 f5 f6 f7 c0 c1 c2 c3 c4 c5 c6 c7 hLr hb hhd
            generalize w3.setCells g 0 [.int .u32 s0, .int .u32 s1, .int .u32 s2, .int .u32 s3, .int .u32 s4, .int .u32 s5, .int .u32 s6, .int .u32 s7] = w5 at *
            have hr5 := hfh w5 (holds_far hrz hfz t5r)
            clear hfh hrz
            have R5 : WRel g xs bs w (.slice (if c' = 64 then A' else A'.map fun x => x.add 64) (zs.length - 64) (c' - 64)) w5 :=
              ⟨ys ++ zs.take 64, zs.drop 64, _, c' - 64, rest, by rw [Hdl.out], Hsp.out, Hy.out, by rw [Hdl.out]; omega, by unfold maxLen; omega, hod, hr5, hfr, by rw [HS.out]; exact b5, Hrl.out, t5⟩
            by_cases hcm : c' = 64
            · rw [if_pos hcm] at R5
              subst hcm
              rw [show zs.length - 64 = 0 by omega, Nat.sub_self] at R5
              have HR := Lib.hid R5
              clear R5 hr5 hfr
              go_wp2_with fail
              go_roundw
              case rel => exact HR.out
              case measure => simp [leftOf] <;> omega
            · rw [if_neg hcm] at R5
              have HR := Lib.hid R5
              clear R5 hr5 hfr
              go_wp2_with fail
              go_roundw
              case rel => exact HR.out
              case measure => simp [leftOf] <;> omega
          · have hez : zs.take 64 = zs := List.take_of_length_le (by omega)
            have hst := stateL_st ys
            have hcop := fun (w2 : World) => HB.copied (w := w2) (g := g) (rest := rest) (n := (xs.length : Int) + bs.length) (zs := zs.take 64) hst.1 hrl (q := 0) (by rw [hez]; omega)
            rw [hez] at hcop
            have hS := stateL_part (zs := zs) hy (by omega)
            have hla := rest_last (r := rest.drop (0 + zs.length)) hy (zs := zs) (by omega)
            have hNN : (xs.length : Int) + bs.length = ((xs ++ bs).length : Int) := by simp
            have Hez := Lib.hid hez
            have HN := Lib.hid hNN
            have Hcop := Lib.hid hcop
            have HS := Lib.hid hS
            have Hla := Lib.hid hla
            have Hsp := Lib.hid hsp
            have Hrl := Lib.hid hrl
            clear hez hNN hcop hS hla hsp hy hrl
            go_wp2_with (refine wpList_copy_mid rfl _ _ _ rfl elem8 rfl rfl hrz hb (by rw [hcells_length _ hst.1 Hrl.out]; omega) ?_; rw [Hez.out]; intro w6 b6 g6)
            go_end0
            refine ⟨rfl, ⟨_, ?_, ?_, by rw [Hsp.out]; exact Hla.out⟩, ht.trans (TurnsIn.ofGrown g6 fun b hb => by injection hb with hb; exact hb.symm)⟩
            · have b7 := Hcop.out w6 b6
              rw [HN.out] at b7
              rw [Hsp.out] at b7 ⊢
              rw [HS.out]
              exact b7
            · have := Hrl.out
              simp only [List.length_append, List.length_drop]; omega
end Go.Proofs.YtpnodocjpedcmaaDoor.Sha

namespace Go.Proofs.YtpnodocjpedcmaaDoor.Sha
open Go.ChangeShapes Go.WideShapes Go.ChangeAt Go.RowKit Go.Proofs.YtpnodocjpedcmaaDoor.Kit

/-- A list, with zeros up to m. -/
def padN (m : Nat) (l : List Int) : List Int := l ++ List.replicate (m - l.length) 0
theorem padN_length {m : Nat} {l : List Int} (h : l.length ≤ m) : (padN m l).length = m := by unfold padN; simp; omega
theorem padN_full {m : Nat} {l : List Int} (h : l.length = m) : padN m l = l := by unfold padN; rw [h]; simp
theorem padN_set {m n : Nat} {l : List Int} {x : Int} (hn : n = l.length) (h : l.length < m) : (padN m l).set n x = padN m (l ++ [x]) := by
  subst hn
  unfold padN
  obtain ⟨k, hk⟩ : ∃ k, m - l.length = k + 1 := ⟨m - 1 - l.length, by omega⟩
  rw [hk, List.replicate_succ, List.set_append, if_neg (by omega), Nat.sub_self, List.set_cons_zero, List.length_append, List.length_singleton, show m - (l.length + 1) = k by omega, List.append_assoc]
  rfl
theorem take_snoc {l : List Int} {i : Nat} (h : i < l.length) : l.take (i + 1) = l.take i ++ [l.getD i 0] := by
  rw [List.take_add_one, List.getD_eq_getElem?_getD, List.getElem?_eq_getElem h]
  rfl

theorem hb_alloc {w : World} {g : Nat} {st rest : List Int} {n : Int} (h : HB w g st rest n) (o : Obj) : HB (w.alloc o) g st rest n := Block.alloc h o

theorem hb_grown {w w' : World} {g k : Nat} {st rest : List Int} {n : Int} (h : HB w g st rest n) (hg : w.grownBy w' (some k)) (hne : k ≠ g) : HB w' g st rest n := Block.grown h hg (by intro e; injection e with e; exact hne e)
theorem zero_block1 (w : World) (o : Obj) : HB ((w.alloc o).alloc (.cells #[.int .u32 0, .int .u32 0, .int .u32 0, .int .u32 0, .int .u32 0, .int .u32 0, .int .u32 0, .int .u32 0, .int .u8 0, .int .u8 0, .int .u8 0, .int .u8 0, .int .u8 0, .int .u8 0, .int .u8 0, .int .u8 0, .int .u8 0, .int .u8 0, .int .u8 0, .int .u8 0, .int .u8 0, .int .u8 0, .int .u8 0, .int .u8 0, .int .u8 0, .int .u8 0, .int .u8 0, .int .u8 0, .int .u8 0, .int .u8 0, .int .u8 0, .int .u8 0, .int .u8 0, .int .u8 0, .int .u8 0, .int .u8 0, .int .u8 0, .int .u8 0, .int .u8 0, .int .u8 0, .int .u8 0, .int .u8 0, .int .u8 0, .int .u8 0, .int .u8 0, .int .u8 0, .int .u8 0, .int .u8 0, .int .u8 0, .int .u8 0, .int .u8 0, .int .u8 0, .int .u8 0, .int .u8 0, .int .u8 0, .int .u8 0, .int .u8 0, .int .u8 0, .int .u8 0, .int .u8 0, .int .u8 0, .int .u8 0, .int .u8 0, .int .u8 0, .int .u8 0, .int .u8 0, .int .u8 0, .int .u8 0, .int .u8 0, .int .u8 0, .int .u8 0, .int .u8 0, .int .u64 0] 154)) (w.heap.size + 1) (List.replicate 8 0) (List.replicate 64 0) 0 := by
  have h := zero_block (w.alloc o)
  rwa [show (w.alloc o).heap.size = w.heap.size + 1 by simp] at h

theorem below_two {w w2 : World} {o1 o2 : Obj} (g2 : ((w.alloc o1).alloc o2).grownBy w2 (some (w.heap.size + 1))) : Below w.heap.size w w2 :=
  (((Below.refl _ w).alloc (Nat.le_refl _) o1).alloc (by simp) o2).trans (below_of_grown g2 (by simp; omega) (fun b hb => by injection hb with hb; omega))
theorem below_one {B : Nat} {w w2 : World} (h : Below B w w2) (o : Obj) (hB : B ≤ w2.heap.size) : Below B w (w2.alloc o) := h.alloc hB o

theorem hb_far {w : World} {g : Nat} {st rest : List Int} {n : Int} (h : HB w g st rest n) {p : Addr} (hp : g ≠ p.block) (u : Value) : HB (w.setCell p u) g st rest n := Block.far h hp u
theorem lenB_get {n i : Nat} (h : i < 8) : (lenB n).getD i 0 = (n : Int) * 8 / 2 ^ (56 - 8 * i) % 256 := by
  unfold lenB
  rw [List.getD_eq_getElem?_getD, List.getElem?_map, List.getElem?_range h]
  simp only [Option.map_some, Option.getD_some]
  rw [Int.natCast_emod, Int.natCast_ediv, Int.natCast_mul, Int.natCast_pow, Int.mul_comm]
  rfl
theorem padN_take {m : Nat} {l : List Int} : ((padN m l).drop 0).take l.length = l := by unfold padN; simp
theorem digL_get (s : List Int) {i : Nat} (h : i < 32) : (digL s).getD i 0 = s.getD (i / 4) 0 / 2 ^ (24 - 8 * (i % 4)) % 256 := by
  unfold digL
  rw [List.getD_eq_getElem?_getD, List.getElem?_map, List.getElem?_range h]
  rfl

theorem foldN_get {s : List Int} (h : St8 s) (i : Nat) : W32 (s.getD i 0) := by
  rw [List.getD_eq_getElem?_getD]
  cases e : s[i]? with
  | none => unfold W32; simp
  | some x => exact h.2 x (List.mem_of_getElem? e)

/-- The end's bytes, i of the length's. -/
def endA (n i : Nat) : List Int := 128 :: (List.replicate (tailZ n) 0 ++ (lenB n).take i)
theorem endA_length {n i : Nat} (h : i ≤ 8) : (endA n i).length = 1 + tailZ n + i := by simp [endA, lenB_length]; omega
theorem endA_full (n : Nat) : endA n 8 = endB n := by unfold endA endB; rw [List.take_of_length_le (by rw [lenB_length]; omega)]
theorem endA_next {n i : Nat} (h : i < 8) : endA n (i + 1) = endA n i ++ [(lenB n).getD i 0] := by
  unfold endA
  rw [take_snoc (by rw [lenB_length]; exact h)]
  simp
theorem endA_zero (n : Nat) : padN 72 (endA n 0) = (List.replicate 72 0).set 0 128 := by
  unfold padN endA
  have ht := tailZ_lt n
  simp only [List.take_zero, List.append_nil, List.length_cons, List.length_replicate, List.cons_append]
  rw [show List.replicate 72 (0 : Int) = 0 :: List.replicate 71 0 from rfl, List.set_cons_zero, List.replicate_append_replicate, show tailZ n + (72 - (tailZ n + 1)) = 71 by omega]

set_option maxRecDepth 100000 in
set_option maxHeartbeats 6400000 in
theorem hsum_any (g : Nat) (xs : List Int) (w : World) (h : HashIs w g xs) (hx : xs.length ≤ 1000000000) (hxo : Octets xs) (hL : LaidS w) (hg0 : g ≠ 0) :
    Calls Tryd.prog 68 #[.pointer (some ⟨g, 0, none⟩)] w fun e w' => e = .returned (arrV .u8 (sumL xs)) ∧ Below w.heap.size w w' := by
  obtain ⟨r, h1, h2, h3⟩ := h.ex
  have hst := stateL_st xs
  have kt := h1.taken hst.1 h2
  have hz := zero_hash
  have hgl := h1.lt
  have hzero : ∀ W, (zeroValue 156).run Tryd.prog W = .ok (.agg #[.int .u8 0, .int .u8 0, .int .u8 0, .int .u8 0, .int .u8 0, .int .u8 0, .int .u8 0, .int .u8 0, .int .u8 0, .int .u8 0, .int .u8 0, .int .u8 0, .int .u8 0, .int .u8 0, .int .u8 0, .int .u8 0, .int .u8 0, .int .u8 0, .int .u8 0, .int .u8 0, .int .u8 0, .int .u8 0, .int .u8 0, .int .u8 0, .int .u8 0, .int .u8 0, .int .u8 0, .int .u8 0, .int .u8 0, .int .u8 0, .int .u8 0, .int .u8 0, .int .u8 0, .int .u8 0, .int .u8 0, .int .u8 0, .int .u8 0, .int .u8 0, .int .u8 0, .int .u8 0, .int .u8 0, .int .u8 0, .int .u8 0, .int .u8 0, .int .u8 0, .int .u8 0, .int .u8 0, .int .u8 0, .int .u8 0, .int .u8 0, .int .u8 0, .int .u8 0, .int .u8 0, .int .u8 0, .int .u8 0, .int .u8 0, .int .u8 0, .int .u8 0, .int .u8 0, .int .u8 0, .int .u8 0, .int .u8 0, .int .u8 0, .int .u8 0, .int .u8 0, .int .u8 0, .int .u8 0, .int .u8 0, .int .u8 0, .int .u8 0, .int .u8 0, .int .u8 0]) W := fun _ => by kernel_rfl
  go_enter Tryd.func68, Tryd.ntmps68
  go_wp2_with (first
    | (refine wpList_load_mid rfl _ _ rfl g 0 rfl (hcells (stateL xs) r xs.length) _ (hb_alloc h1 _).range Tryd.underlying154 rfl (by rw [hcells_length _ hst.1 h2]; kernel_rfl) ?_)
    | (refine wpList_store_hash rfl _ _ _ rfl (zero_block1 w _) rfl rfl hst.1 h2 rfl rfl (by kernel_rfl) ?_; intro w2 b2 g2; have hh2 := hb_grown (hb_alloc (hb_alloc h1 _) _) g2 (by omega); have kt2 := hh2.taken hst.1 h2; have hgl2 := hh2.lt))
  have htz : (119 - (xs.length : Int)) % 64 = (tailZ xs.length : Int) := by unfold tailZ; omega
  rw [htz]
  have a3 : Arr (w2.alloc (.cells #[.int .u8 128, .int .u8 0, .int .u8 0, .int .u8 0, .int .u8 0, .int .u8 0, .int .u8 0, .int .u8 0, .int .u8 0, .int .u8 0, .int .u8 0, .int .u8 0, .int .u8 0, .int .u8 0, .int .u8 0, .int .u8 0, .int .u8 0, .int .u8 0, .int .u8 0, .int .u8 0, .int .u8 0, .int .u8 0, .int .u8 0, .int .u8 0, .int .u8 0, .int .u8 0, .int .u8 0, .int .u8 0, .int .u8 0, .int .u8 0, .int .u8 0, .int .u8 0, .int .u8 0, .int .u8 0, .int .u8 0, .int .u8 0, .int .u8 0, .int .u8 0, .int .u8 0, .int .u8 0, .int .u8 0, .int .u8 0, .int .u8 0, .int .u8 0, .int .u8 0, .int .u8 0, .int .u8 0, .int .u8 0, .int .u8 0, .int .u8 0, .int .u8 0, .int .u8 0, .int .u8 0, .int .u8 0, .int .u8 0, .int .u8 0, .int .u8 0, .int .u8 0, .int .u8 0, .int .u8 0, .int .u8 0, .int .u8 0, .int .u8 0, .int .u8 0, .int .u8 0, .int .u8 0, .int .u8 0, .int .u8 0, .int .u8 0, .int .u8 0, .int .u8 0, .int .u8 0] 156)) w2.heap.size 156 .u8 (padN 72 (endA xs.length 0)) := by
    rw [endA_zero]
    exact Block.new w2 _ _
  have r2 : Arr w2 w.heap.size 48 .u8 (List.replicate 32 0) := Block.grown (row := some (w.heap.size + 1)) (Block.alloc (Block.new w _ _) _) g2 (by intro e; injection e with e; omega)
  have r3 := r2.alloc (.cells #[.int .u8 128, .int .u8 0, .int .u8 0, .int .u8 0, .int .u8 0, .int .u8 0, .int .u8 0, .int .u8 0, .int .u8 0, .int .u8 0, .int .u8 0, .int .u8 0, .int .u8 0, .int .u8 0, .int .u8 0, .int .u8 0, .int .u8 0, .int .u8 0, .int .u8 0, .int .u8 0, .int .u8 0, .int .u8 0, .int .u8 0, .int .u8 0, .int .u8 0, .int .u8 0, .int .u8 0, .int .u8 0, .int .u8 0, .int .u8 0, .int .u8 0, .int .u8 0, .int .u8 0, .int .u8 0, .int .u8 0, .int .u8 0, .int .u8 0, .int .u8 0, .int .u8 0, .int .u8 0, .int .u8 0, .int .u8 0, .int .u8 0, .int .u8 0, .int .u8 0, .int .u8 0, .int .u8 0, .int .u8 0, .int .u8 0, .int .u8 0, .int .u8 0, .int .u8 0, .int .u8 0, .int .u8 0, .int .u8 0, .int .u8 0, .int .u8 0, .int .u8 0, .int .u8 0, .int .u8 0, .int .u8 0, .int .u8 0, .int .u8 0, .int .u8 0, .int .u8 0, .int .u8 0, .int .u8 0, .int .u8 0, .int .u8 0, .int .u8 0, .int .u8 0, .int .u8 0] 156)
  have h3' := hb_alloc hh2 (.cells #[.int .u8 128, .int .u8 0, .int .u8 0, .int .u8 0, .int .u8 0, .int .u8 0, .int .u8 0, .int .u8 0, .int .u8 0, .int .u8 0, .int .u8 0, .int .u8 0, .int .u8 0, .int .u8 0, .int .u8 0, .int .u8 0, .int .u8 0, .int .u8 0, .int .u8 0, .int .u8 0, .int .u8 0, .int .u8 0, .int .u8 0, .int .u8 0, .int .u8 0, .int .u8 0, .int .u8 0, .int .u8 0, .int .u8 0, .int .u8 0, .int .u8 0, .int .u8 0, .int .u8 0, .int .u8 0, .int .u8 0, .int .u8 0, .int .u8 0, .int .u8 0, .int .u8 0, .int .u8 0, .int .u8 0, .int .u8 0, .int .u8 0, .int .u8 0, .int .u8 0, .int .u8 0, .int .u8 0, .int .u8 0, .int .u8 0, .int .u8 0, .int .u8 0, .int .u8 0, .int .u8 0, .int .u8 0, .int .u8 0, .int .u8 0, .int .u8 0, .int .u8 0, .int .u8 0, .int .u8 0, .int .u8 0, .int .u8 0, .int .u8 0, .int .u8 0, .int .u8 0, .int .u8 0, .int .u8 0, .int .u8 0, .int .u8 0, .int .u8 0, .int .u8 0, .int .u8 0] 156)
  have b3 := hb_alloc b2 (.cells #[.int .u8 128, .int .u8 0, .int .u8 0, .int .u8 0, .int .u8 0, .int .u8 0, .int .u8 0, .int .u8 0, .int .u8 0, .int .u8 0, .int .u8 0, .int .u8 0, .int .u8 0, .int .u8 0, .int .u8 0, .int .u8 0, .int .u8 0, .int .u8 0, .int .u8 0, .int .u8 0, .int .u8 0, .int .u8 0, .int .u8 0, .int .u8 0, .int .u8 0, .int .u8 0, .int .u8 0, .int .u8 0, .int .u8 0, .int .u8 0, .int .u8 0, .int .u8 0, .int .u8 0, .int .u8 0, .int .u8 0, .int .u8 0, .int .u8 0, .int .u8 0, .int .u8 0, .int .u8 0, .int .u8 0, .int .u8 0, .int .u8 0, .int .u8 0, .int .u8 0, .int .u8 0, .int .u8 0, .int .u8 0, .int .u8 0, .int .u8 0, .int .u8 0, .int .u8 0, .int .u8 0, .int .u8 0, .int .u8 0, .int .u8 0, .int .u8 0, .int .u8 0, .int .u8 0, .int .u8 0, .int .u8 0, .int .u8 0, .int .u8 0, .int .u8 0, .int .u8 0, .int .u8 0, .int .u8 0, .int .u8 0, .int .u8 0, .int .u8 0, .int .u8 0, .int .u8 0] 156)
  have hw2 : Below w.heap.size w w2 := below_two g2
  have hw3 := below_one hw2 (.cells #[.int .u8 128, .int .u8 0, .int .u8 0, .int .u8 0, .int .u8 0, .int .u8 0, .int .u8 0, .int .u8 0, .int .u8 0, .int .u8 0, .int .u8 0, .int .u8 0, .int .u8 0, .int .u8 0, .int .u8 0, .int .u8 0, .int .u8 0, .int .u8 0, .int .u8 0, .int .u8 0, .int .u8 0, .int .u8 0, .int .u8 0, .int .u8 0, .int .u8 0, .int .u8 0, .int .u8 0, .int .u8 0, .int .u8 0, .int .u8 0, .int .u8 0, .int .u8 0, .int .u8 0, .int .u8 0, .int .u8 0, .int .u8 0, .int .u8 0, .int .u8 0, .int .u8 0, .int .u8 0, .int .u8 0, .int .u8 0, .int .u8 0, .int .u8 0, .int .u8 0, .int .u8 0, .int .u8 0, .int .u8 0, .int .u8 0, .int .u8 0, .int .u8 0, .int .u8 0, .int .u8 0, .int .u8 0, .int .u8 0, .int .u8 0, .int .u8 0, .int .u8 0, .int .u8 0, .int .u8 0, .int .u8 0, .int .u8 0, .int .u8 0, .int .u8 0, .int .u8 0, .int .u8 0, .int .u8 0, .int .u8 0, .int .u8 0, .int .u8 0, .int .u8 0, .int .u8 0] 156) (by have := b2.lt; omega)
  have hE : w.heap.size + 1 < w2.heap.size := b2.lt
  have hE3 : w2.heap.size < (w2.alloc (.cells #[.int .u8 128, .int .u8 0, .int .u8 0, .int .u8 0, .int .u8 0, .int .u8 0, .int .u8 0, .int .u8 0, .int .u8 0, .int .u8 0, .int .u8 0, .int .u8 0, .int .u8 0, .int .u8 0, .int .u8 0, .int .u8 0, .int .u8 0, .int .u8 0, .int .u8 0, .int .u8 0, .int .u8 0, .int .u8 0, .int .u8 0, .int .u8 0, .int .u8 0, .int .u8 0, .int .u8 0, .int .u8 0, .int .u8 0, .int .u8 0, .int .u8 0, .int .u8 0, .int .u8 0, .int .u8 0, .int .u8 0, .int .u8 0, .int .u8 0, .int .u8 0, .int .u8 0, .int .u8 0, .int .u8 0, .int .u8 0, .int .u8 0, .int .u8 0, .int .u8 0, .int .u8 0, .int .u8 0, .int .u8 0, .int .u8 0, .int .u8 0, .int .u8 0, .int .u8 0, .int .u8 0, .int .u8 0, .int .u8 0, .int .u8 0, .int .u8 0, .int .u8 0, .int .u8 0, .int .u8 0, .int .u8 0, .int .u8 0, .int .u8 0, .int .u8 0, .int .u8 0, .int .u8 0, .int .u8 0, .int .u8 0, .int .u8 0, .int .u8 0, .int .u8 0, .int .u8 0] 156)).heap.size := by simp
  clear r2 hh2 b2 g2 kt2 hw2 hz hzero kt
  obtain ⟨w3, hw3e⟩ : ∃ w3, w3 = w2.alloc (.cells #[.int .u8 128, .int .u8 0, .int .u8 0, .int .u8 0, .int .u8 0, .int .u8 0, .int .u8 0, .int .u8 0, .int .u8 0, .int .u8 0, .int .u8 0, .int .u8 0, .int .u8 0, .int .u8 0, .int .u8 0, .int .u8 0, .int .u8 0, .int .u8 0, .int .u8 0, .int .u8 0, .int .u8 0, .int .u8 0, .int .u8 0, .int .u8 0, .int .u8 0, .int .u8 0, .int .u8 0, .int .u8 0, .int .u8 0, .int .u8 0, .int .u8 0, .int .u8 0, .int .u8 0, .int .u8 0, .int .u8 0, .int .u8 0, .int .u8 0, .int .u8 0, .int .u8 0, .int .u8 0, .int .u8 0, .int .u8 0, .int .u8 0, .int .u8 0, .int .u8 0, .int .u8 0, .int .u8 0, .int .u8 0, .int .u8 0, .int .u8 0, .int .u8 0, .int .u8 0, .int .u8 0, .int .u8 0, .int .u8 0, .int .u8 0, .int .u8 0, .int .u8 0, .int .u8 0, .int .u8 0, .int .u8 0, .int .u8 0, .int .u8 0, .int .u8 0, .int .u8 0, .int .u8 0, .int .u8 0, .int .u8 0, .int .u8 0, .int .u8 0, .int .u8 0, .int .u8 0] 156) := ⟨_, rfl⟩
  rw [← hw3e] at a3 r3 h3' b3 hw3 hE3 ⊢
  clear hw3e
  generalize w2.heap.size = E at *
  have htl := tailZ_lt xs.length
  have hel := fun i (h : i ≤ 8) => endA_length (n := xs.length) (i := i) h
  have Hel := Lib.hid hel
  clear hel htz
  go_loopw [25] (fun s wr => ∃ i : Nat, i ≤ 8 ∧ s = .int .i64 i ∧ Arr wr E 156 .u8 (padN 72 (endA xs.length i)) ∧ Arr wr w.heap.size 48 .u8 (List.replicate 32 0) ∧ HB wr g (stateL xs) r xs.length ∧ HB wr (w.heap.size + 1) (stateL xs) r xs.length ∧ Below w.heap.size w wr) (fun s _ => 8 - (intOf s).toNat)
  case atStart => exact ⟨0, by omega, rfl, a3, r3, h3', b3, hw3⟩
  case round =>
    clear a3 r3 h3' b3 hw3
    obtain ⟨i, hi, rfl, a4, r4, h4, b4, hb4⟩ := hrel
    by_cases hlt : i < 8
    · have kt := h4.taken hst.1 h2
      have hpl : (padN 72 (endA xs.length i)).length = 72 := padN_length (by rw [Hel.out _ (by omega)]; omega)
      have hc := a4.cell (i := 1 + tailZ xs.length + i) (by omega)
      have hf := a4.frozen (1 + tailZ xs.length + i)
      have hset := padN_set (m := 72) (n := 1 + tailZ xs.length + i) (l := endA xs.length i) (x := (lenB xs.length).getD i 0) (by rw [Hel.out _ (by omega)]) (by rw [Hel.out _ (by omega)]; omega)
      rw [← endA_next hlt] at hset
      have hset := Lib.hid hset
      generalize (padN 72 (endA xs.length i))[1 + tailZ xs.length + i]?.getD 0 = old at *
      generalize tailZ xs.length = tz at *
      clear hpl
      have hv := Lib.hid (lenB_get (n := xs.length) hlt)
      go_wp2_with fail
      have k9 := a4.set_ (1 + tz + i) ((lenB xs.length).getD i 0)
      rw [hset.out, hv.out] at k9
      go_roundw
      case rel => exact ⟨i + 1, by omega, by go_num, k9, r4.far (by simp; omega) _, hb_far h4 (by simp; omega) _, hb_far b4 (by simp; omega) _, hb4.setCell (by simp; omega) _⟩
      case measure => simp [intOf] <;> omega
    · obtain rfl : i = 8 := by omega
      rw [endA_full] at a4
      have hel8 := endB_length xs.length
      have hH : HashIs wr (w.heap.size + 1) xs := ⟨r, b4, h2, h3⟩
      have hLr := hL.below hb4
      have hgc : w.heap.size + 1 ≠ 0 := by have := hL.lt (by rw [cubes_length]; omega); omega
      have hHo : Holds wr wr.heap.size .u8 (some ⟨E, 0, none⟩) (endB xs.length) := by
        have := a4.holds 0 (endB xs.length).length
        rwa [padN_take] at this
      have GW := write_any (w.heap.size + 1) xs (some ⟨E, 0, none⟩) (endB xs.length) 72 wr hH (by rw [hel8]; omega) hxo (by rw [hel8]; omega) (by unfold maxLen; omega) (endB_octets _) hHo (fun _ a ha => by injection ha with ha; subst ha; simp; omega) hLr hgc
      rw [hel8] at GW
      have GW := Lib.hid GW
      have hEr : E < wr.heap.size := a4.lt
      clear hel8 hHo a4 hH b4 hLr Hel
      generalize htz2 : tailZ xs.length = tz at *
      clear htz2
      have z0 : (0 : Int) ≤ 9 + (tz : Int) := by omega
      have z1 : 9 + (tz : Int) ≤ 72 := by omega
      have z2 : (9 + (tz : Int)).toNat = 9 + tz := by omega
      go_wp2_with fail
      refine GW.out.mono ?_
      rintro e w5 ⟨rfl, hW5, t5⟩
      obtain ⟨r5, b5, l5, _⟩ := hW5.ex
      have hb5 : Below w.heap.size w w5 := hb4.trans (t5.toBelow hb4.size (fun b hb he => by omega))
      have r6 : Arr w5 w.heap.size 48 .u8 (List.replicate 32 0) := Block.out r4 t5 (by omega)
      have hd5 : w.heap.size + 1 < w5.heap.size := b5.lt
      have hst5 := stateL_st (xs ++ endB xs.length)
      obtain ⟨S5, hS5⟩ : ∃ S5, S5 = stateL (xs ++ endB xs.length) := ⟨_, rfl⟩
      rw [← hS5] at b5 hst5
      have HS5 : Hid (digL S5 = sumL xs) := Lib.hid (by rw [hS5]; rfl)
      clear hS5 hW5 t5 GW z0 z1 z2 r4 hb4 hEr
      generalize ((xs ++ endB xs.length).length : Int) = N5 at *
      go_wp2_with fail
      have a7 : Arr (w5.alloc (.cells ((List.replicate 32 (0 : Int)).map (Value.int .u8)).toArray 48)) w5.heap.size 48 .u8 (padN 32 ((digL S5).take 0)) := Block.new w5 _ _
      have r7 := r6.alloc (.cells ((List.replicate 32 (0 : Int)).map (Value.int .u8)).toArray 48)
      have b7 := hb_alloc b5 (.cells ((List.replicate 32 (0 : Int)).map (Value.int .u8)).toArray 48)
      have hw7 := below_one hb5 (.cells ((List.replicate 32 (0 : Int)).map (Value.int .u8)).toArray 48) hb5.size
      clear r6 b5 hb5
      generalize w5.heap.size = D at *
      go_loopw [48] (fun s wr => ∃ i : Nat, i ≤ 32 ∧ s = .int .i64 i ∧ Arr wr D 48 .u8 (padN 32 ((digL S5).take i)) ∧ Arr wr w.heap.size 48 .u8 (List.replicate 32 0) ∧ HB wr (w.heap.size + 1) S5 r5 N5 ∧ Below w.heap.size w wr) (fun s _ => 32 - (intOf s).toNat)
      case atStart => exact ⟨0, by omega, rfl, a7, r7, b7, hw7⟩
      case round =>
        clear a7 r7 b7 hw7
        obtain ⟨i, hi, rfl, a8, r8, b8, hw8⟩ := hrel
        have htl8 : ((digL S5).take i).length = i := by rw [List.length_take, digL_length]; omega
        by_cases hlt : i < 32
        · have kc := b8.stCell hst5.1 (i := i / 4) (by omega)
          have xb := (foldN_get hst5 (i / 4))
          have hpl : (padN 32 ((digL S5).take i)).length = 32 := padN_length (by omega)
          have hc := a8.cell (i := i) (by omega)
          have hf := a8.frozen i
          have hset := padN_set (m := 32) (n := i) (l := (digL S5).take i) (x := (digL S5).getD i 0) (by omega) (by omega)
          rw [← take_snoc (by rw [digL_length]; omega)] at hset
          have hset := Lib.hid hset
          have hv := digL_get S5 hlt
          simp only [List.getD_eq_getElem?_getD] at hv xb
          generalize (padN 32 ((digL S5).take i))[i]?.getD 0 = old at *
          generalize S5[i / 4]?.getD 0 = X at *
          have hv := Lib.hid hv
          clear hpl htl8
          go_wp2_with fail
          have k9 := a8.set_ i ((digL S5).getD i 0)
          rw [hset.out, List.getD_eq_getElem?_getD, hv.out] at k9
          go_roundw
          case rel => exact ⟨i + 1, by omega, by go_num, k9, r8.far (by simp; omega) _, hb_far b8 (by simp; omega) _, hw8.setCell (by simp; omega) _⟩
          case measure => simp [intOf] <;> omega
        · obtain rfl : i = 32 := by omega
          rw [padN_full htl8, List.take_of_length_le (by rw [digL_length]; omega), HS5.out] at a8
          have hsl := Lib.hid (sumL_length xs)
          have arr32 : Tryd.prog.underlying 48 = some (.array 32 5) := Tryd.underlying48
          clear htl8
          go_wp2_with (first
            | (refine wpList_load_arr rfl _ _ rfl a8 rfl arr32 rfl (by rw [hsl.out]; kernel_rfl) ?_)
            | (refine wpList_store_arr rfl _ _ _ rfl r8 rfl rfl (by rw [hsl.out]; rfl) (by rw [hsl.out]; kernel_rfl) ?_; intro w9 r9 g9))
          refine bodyPost_ret (v := arrV .u8 (sumL xs)) (results_cell_row rfl _ _ w.heap.size 48 _ (0, 0) _ rfl r9 arr32 rfl (by rw [show ((sumL xs).map (Value.int .u8)).toArray.size = 32 by simp [sumL_length]]; kernel_rfl)) rfl ⟨rfl, ?_⟩
          exact hw8.trans (below_of_grown g9 hw8.size fun b hb => by injection hb with hb; omega)
end Go.Proofs.YtpnodocjpedcmaaDoor.Sha

namespace Go.Proofs.YtpnodocjpedcmaaDoor.Sha
open Go.ChangeShapes Go.WideShapes Go.ChangeAt Go.RowKit Go.Proofs.YtpnodocjpedcmaaDoor.Kit

/-- A build whose value is known as a whole. -/
theorem wpList_build_known {P : Program} {w : World} {ops : Array Oper} {rest : List Oper} {o : Oper} {a : Act} {Q : Exit → Act → World → Prop} (hgd : o.guard = none) (ty : TypeId) (parts : Array (Nat × Operand)) (ho : o.op = .build ty parts)
    (V : Value) (hrun : ∀ W, (Instr.build ty (parts.map fun (i, x) => (i, a.eval x))).run P W = .ok V W) (h : wpList P ops Q rest (a.put o.dst V) w) : wpList P ops Q (o :: rest) a w := by
  refine wpList_plain hgd fun K hK => ?_
  unfold Oper.wp
  simp only [execOp, ho, Sem.run_bind, Sem.run_pure]
  rw [hrun]
  exact hK _ _ h

set_option maxRecDepth 100000 in
set_option maxHeartbeats 1600000 in
theorem roots_any (w : World) :
    Calls Tryd.prog 98 #[] w fun e w' => e = .returned (arrV .u32 cubesL) ∧ Below w.heap.size w w' := by
  have arr64t : Tryd.prog.underlying 166 = some (.array 64 150) := Tryd.underlying166
  have hz : ∀ W, (zeroValue 166).run Tryd.prog W = .ok (.agg Z64) W := fun _ => by kernel_rfl
  go_enter Tryd.func98, Tryd.ntmps98
  go_wp2_with (first
    | (refine wpList_build_known rfl _ _ rfl (arrV .u32 cubesL) (fun W => by kernel_rfl) ?_)
    | (refine wpList_store_arr rfl _ _ _ rfl (arr64 w) rfl rfl (by rfl) (by kernel_rfl) ?_; intro w2 r2 g2))
  refine bodyPost_ret (v := arrV .u32 cubesL) (results_cell_row rfl _ _ w.heap.size 166 _ (0, 0) _ rfl r2 arr64t rfl (by kernel_rfl)) rfl ⟨rfl, ?_⟩
  exact ((Below.refl _ w).alloc (Nat.le_refl _) _).trans (below_of_grown g2 (by simp) (fun g hg => by injection hg with hg; omega))

theorem zeros_more {n j : Nat} (h : j < tailZ n) : ¬ (n + 1 + j) % 64 = 56 := by unfold tailZ at h; omega
theorem zeros_done (n : Nat) : (n + 1 + tailZ n) % 64 = 56 := by unfold tailZ; omega

set_option maxRecDepth 100000 in
set_option maxHeartbeats 3200000 in
theorem padded_any (A : Option Addr) (xs : List Int) (c : Nat) (w : World) (hx : xs.length ≤ 1000000000) (hc : xs.length ≤ c) (hm : c ≤ maxLen) (hr : Holds w w.heap.size .u8 A xs) :
    Calls Tryd.prog 99 #[.slice A xs.length c] w fun e w' => ∃ v, e = .returned v ∧ Own w' w.heap.size 5 .u8 v (padL xs) ∧ Below w.heap.size w w' := by
  have own0 := Own.empty (k := .u8) w 5 (Nat.le_refl _)
  have hb0 : Below w.heap.size w (w.alloc (.cells #[] 5)) := (Below.refl _ _).alloc (Nat.le_refl _) _
  have hr0 : Holds (w.alloc (.cells #[] 5)) w.heap.size .u8 A xs := hr.below hb0
  have htl := tailZ_lt xs.length
  go_enter Tryd.func99, Tryd.ntmps99
  go_wp2_with (first
    | (have _t := own0; at_builtin; refine wpList_append_ints (ys := xs) _ rfl _ _ _ rfl elem8 own0 rfl rfl hr0 (by simp; omega) (by simp) ?_; clear _t own0; intro v3 w3 own3 hg3 hb3 hv3)
    | (have _t := own3; at_builtin; refine wpList_append_one (z := 128) _ rfl _ _ _ rfl elem8 own3 rfl rfl (by simp; omega) (by have := hb3.size; simp at this; omega) ?_; clear _t own3; intro v4 w4 own4 hg4 hb4))
  have hb4' : Below w.heap.size w w4 := (hb0.trans hb3).trans hb4
  clear hg3 hg4 hb3 hb4 hv3 hr0 hb0
  rw [List.nil_append] at own4
  go_loopw [3] (fun v wr => ∃ j : Nat, j ≤ tailZ xs.length ∧ Own wr w.heap.size 5 .u8 v (xs ++ [128] ++ List.replicate j 0) ∧ Below w.heap.size w wr) (fun v _ => xs.length + 1 + tailZ xs.length - leftOf v)
  case atStart => exact ⟨0, by omega, by simpa using own4, hb4'⟩
  case round =>
    clear own4 hb4'
    obtain ⟨j, hj, own5, hb5⟩ := hrel
    obtain ⟨A5, c5, rfl, hl5, hm5, _⟩ := own5.opened
    have hll : (xs ++ [128] ++ List.replicate j (0 : Int)).length = xs.length + 1 + j := by simp; omega
    have hnx : xs ++ [128] ++ List.replicate j (0 : Int) ++ [0] = xs ++ [128] ++ List.replicate (j + 1) 0 := by rw [List.append_assoc, ← List.replicate_succ']
    have hlast : xs ++ [128] ++ List.replicate (tailZ xs.length) (0 : Int) = xs ++ endA xs.length 0 := by simp [endA]
    unfold maxLen at hm5
    by_cases hlt : j < tailZ xs.length
    · have d := zeros_more hlt
      generalize xs ++ [128] ++ List.replicate j (0 : Int) = ys at *
      have d0 : (((ys.length : Int) % 64) != 56) = true := by rw [bne_iff_ne]; omega
      have hys : ys.length ≤ 1000000065 := by omega
      have hys2 : ys.length < xs.length + 1 + tailZ xs.length := by omega
      have Hnx := Lib.hid hnx
      clear d hll hnx hlast
      go_wp2_with (at_builtin; refine wpList_append_one (z := 0) _ rfl _ _ _ rfl elem8 own5 rfl rfl (by omega) hb5.size ?_; clear own5; intro v6 w6 own6 hg6 hb6; obtain ⟨A6, c6, rfl, hl6, hm6, _⟩ := own6.opened)
      go_roundw
      case rel => exact ⟨j + 1, by omega, by rw [List.length_append, List.length_singleton, Hnx.out] at own6; exact own6, hb5.trans hb6⟩
      case measure => simp [leftOf] <;> omega
    · obtain rfl : j = tailZ xs.length := by omega
      have d := zeros_done xs.length
      rw [hlast] at own5 hl5 hll
      rw [hlast]
      clear hlast hnx
      have hdone : padL xs = xs ++ endA xs.length 8 := by unfold padL; rw [endA_full]
      have hnext := fun i (h : i < 8) => endA_next (n := xs.length) h
      have hlenA := fun i (h : i ≤ 8) => endA_length (n := xs.length) h
      have htl2 := tailZ_lt xs.length
      generalize hys : xs ++ endA xs.length 0 = ys at *
      have d0 : (((ys.length : Int) % 64) != 56) = false := by rw [bne_eq_false_iff_eq]; omega
      have Hys := Lib.hid hys
      have Hdone := Lib.hid hdone
      have Hnext := Lib.hid hnext
      have HlenA := Lib.hid hlenA
      clear hys d hll hdone hnext hlenA
      go_wp2_with fail
      go_loopw [3, 5] (fun v s wr => ∃ i : Nat, i ≤ 8 ∧ s = .int .i64 i ∧ Own wr w.heap.size 5 .u8 v (xs ++ endA xs.length i) ∧ Below w.heap.size w wr) (fun _ s _ => 8 - (intOf s).toNat)
      case atStart => exact ⟨0, by omega, rfl, by rw [Hys.out]; exact own5, hb5⟩
      case round =>
        clear own5 hb5
        obtain ⟨i, hi, rfl, own7, hb7⟩ := hrel
        obtain ⟨A7, c7, rfl, hl7, hm7, _⟩ := own7.opened
        have hz7 : (xs ++ endA xs.length i).length ≤ 1000000100 := by rw [List.length_append, HlenA.out i hi]; omega
        by_cases hlt : i < 8
        · have hv := lenB_get (n := xs.length) hlt
          have hn7 : xs ++ endA xs.length i ++ [(xs.length : Int) * 8 / 2 ^ (56 - 8 * i) % 256] = xs ++ endA xs.length (i + 1) := by rw [Hnext.out i hlt, hv, List.append_assoc]
          generalize xs ++ endA xs.length i = zs at *
          have Hn7 := Lib.hid hn7
          clear hv hn7
          go_wp2_with (at_builtin; refine wpList_append_one (z := (xs.length : Int) * 8 / 2 ^ (56 - 8 * i) % 256) _ rfl _ _ _ rfl elem8 own7 rfl rfl (by omega) hb7.size ?_; clear own7; intro v8 w8 own8 hg8 hb8)
          go_roundw
          case rel => exact ⟨i + 1, by omega, by go_num, by rw [Hn7.out] at own8; exact own8, hb7.trans hb8⟩
          case measure => simp [intOf] <;> omega
        · obtain rfl : i = 8 := by omega
          rw [← Hdone.out] at own7 ⊢
          go_wp2_with fail
          go_ret
          exact ⟨_, rfl, own7, hb7⟩
end Go.Proofs.YtpnodocjpedcmaaDoor.Sha

namespace Go.Proofs.YtpnodocjpedcmaaDoor.Jr
open Go.ChangeShapes Go.WideShapes Go.ChangeAt Go.RowKit Go.Proofs.YtpnodocjpedcmaaDoor.Kit

/-- A record. -/
structure Rec where
  seq : Int
  act : Int
  ver : Int
  len : Int
  st : Int
  md : Int
  man : List Int
  nv : Int
  nl : Int
  dn : Int
  at_ : Int
  blk : Int
  asz : Int
/-- Its cells, in their order. -/
def Rec.cells (r : Rec) : List Value :=
  .int .u64 r.seq :: .int .u8 r.act :: .int .u64 r.ver :: .int .i64 r.len :: .int .u8 r.st :: .int .u8 r.md :: (r.man.map (Value.int .u8) ++ [.int .u64 r.nv, .int .i64 r.nl, .int .i64 r.dn, .int .u64 r.at_, .int .i64 r.blk, .int .i64 r.asz])
/-- A record's numbers are within their types. -/
structure Rec.Ok (r : Rec) : Prop where
  seq : 0 ≤ r.seq ∧ r.seq < 18446744073709551616
  act : 0 ≤ r.act ∧ r.act ≤ 255
  ver : 0 ≤ r.ver ∧ r.ver < 18446744073709551616
  len : -9223372036854775808 ≤ r.len ∧ r.len ≤ 9223372036854775807
  st : 0 ≤ r.st ∧ r.st ≤ 255
  md : 0 ≤ r.md ∧ r.md ≤ 255
  man : r.man.length = 32
  mano : Octets r.man
  nv : 0 ≤ r.nv ∧ r.nv < 18446744073709551616
  nl : -9223372036854775808 ≤ r.nl ∧ r.nl ≤ 9223372036854775807
  dn : -9223372036854775808 ≤ r.dn ∧ r.dn ≤ 9223372036854775807
  at_ : 0 ≤ r.at_ ∧ r.at_ < 18446744073709551616
  blk : -9223372036854775808 ≤ r.blk ∧ r.blk ≤ 9223372036854775807
  asz : -9223372036854775808 ≤ r.asz ∧ r.asz ≤ 9223372036854775807
/-- May it be? -/
def inB (n : Int) : Bool := decide (0 ≤ n ∧ n ≤ 2147483647)
def Rec.may (r : Rec) : Bool := decide (r.act ≤ 1 ∧ r.st ≤ 3 ∧ r.md ≤ 3) && inB r.len && inB r.nl && inB r.dn && inB r.blk && inB r.asz

theorem back_cell (r : Rec) (h : r.man.length = 32) (j : Nat) : r.cells.toArray[38 + j]? = ([Value.int .u64 r.nv, .int .i64 r.nl, .int .i64 r.dn, .int .u64 r.at_, .int .i64 r.blk, .int .i64 r.asz] : List Value)[j]? := by
  rw [List.getElem?_toArray, show 38 + j = 32 + j + 1 + 1 + 1 + 1 + 1 + 1 by omega]
  unfold Rec.cells
  simp only [List.getElem?_cons_succ]
  rw [List.getElem?_append_right (by rw [List.length_map, h]; omega), List.length_map, h, show 32 + j - 32 = j by omega]

theorem in1_any (n : Int) (w : World) : Calls Tryd.prog 90 #[.int .i64 n] w fun e w' => e = .returned (.bool (inB n)) ∧ w = w' := by
  unfold inB
  by_cases h0 : 0 ≤ n
  · by_cases h1 : n ≤ 2147483647
    · rw [decide_eq_true (show 0 ≤ n ∧ n ≤ 2147483647 from ⟨h0, h1⟩)]
      have d1 : decide (n ≤ 2147483647) = true := decide_eq_true h1
      go_enter Tryd.func90, Tryd.ntmps90
      go_wp2
      go_ret
      exact ⟨rfl, rfl⟩
    · rw [decide_eq_false (show ¬ (0 ≤ n ∧ n ≤ 2147483647) from fun h => h1 h.2)]
      have d1 : decide (n ≤ 2147483647) = false := decide_eq_false h1
      go_enter Tryd.func90, Tryd.ntmps90
      go_wp2
      go_ret
      exact ⟨rfl, rfl⟩
  · rw [decide_eq_false (show ¬ (0 ≤ n ∧ n ≤ 2147483647) from fun h => h0 h.1)]
    have d1 : decide (0 ≤ n) = false := decide_eq_false h0
    go_enter Tryd.func90, Tryd.ntmps90
    go_wp2
    go_ret
    exact ⟨rfl, rfl⟩
theorem rin_any (n : Int) (w : World) : Calls Tryd.prog 55 #[.int .i64 n] w fun e w' => e = .returned (.bool (inB n)) ∧ w = w' := by
  unfold inB
  by_cases h0 : 0 ≤ n
  · by_cases h1 : n ≤ 2147483647
    · rw [decide_eq_true (show 0 ≤ n ∧ n ≤ 2147483647 from ⟨h0, h1⟩)]
      have d1 : decide (n ≤ 2147483647) = true := decide_eq_true h1
      go_enter Tryd.func55, Tryd.ntmps55
      go_wp2
      go_ret
      exact ⟨rfl, rfl⟩
    · rw [decide_eq_false (show ¬ (0 ≤ n ∧ n ≤ 2147483647) from fun h => h1 h.2)]
      have d1 : decide (n ≤ 2147483647) = false := decide_eq_false h1
      go_enter Tryd.func55, Tryd.ntmps55
      go_wp2
      go_ret
      exact ⟨rfl, rfl⟩
  · rw [decide_eq_false (show ¬ (0 ≤ n ∧ n ≤ 2147483647) from fun h => h0 h.1)]
    have d1 : decide (0 ≤ n) = false := decide_eq_false h0
    go_enter Tryd.func55, Tryd.ntmps55
    go_wp2
    go_ret
    exact ⟨rfl, rfl⟩
theorem in2_any (n : Int) (w : World) : Calls Tryd.prog 91 #[.int .i64 n] w fun e w' => e = .returned (.bool (decide (n ≤ 3))) ∧ w = w' := by
  obtain ⟨b, hb⟩ : ∃ b : Bool, decide (n ≤ 3) = b := ⟨_, rfl⟩
  rw [hb]
  go_enter Tryd.func91, Tryd.ntmps91
  go_wp2
  go_ret
  exact ⟨rfl, rfl⟩

theorem take_all (p : Int → Bool) (xs : List Int) (j : Nat) (h : j < xs.length) : (xs.take (j + 1)).all p = ((xs.take j).all p && p (xs.getD j 0)) := by
  rw [List.take_succ_eq_append_getElem h, List.all_append]
  simp [List.getD, List.getElem?_eq_getElem h]

set_option maxHeartbeats 1600000 in
theorem all1_any (p : Int → Bool) (hp : ∀ x W, Calls Tryd.prog 90 #[.int .i64 x] W fun e w' => e = .returned (.bool (p x)) ∧ W = w') (A : Option Addr) (xs : List Int) (c : Nat) (w : World) (hl : xs.length ≤ 100) (hr : Holds w w.heap.size .i64 A xs) :
    Calls Tryd.prog 89 #[.func (.func 90) #[] #[], .slice A xs.length c] w fun e w' => e = .returned (.bool (xs.all p)) ∧ w = w' := by
  have HP := Lib.hid hp
  have HA := Lib.hid (fun j (h : j < xs.length) => take_all p xs j h)
  have HE : Hid (xs.take xs.length = xs) := Lib.hid List.take_length
  clear hp
  go_enter Tryd.func89, Tryd.ntmps89
  go_wp2
  go_loop [9] (fun i => ∃ j : Nat, j ≤ xs.length ∧ i = .int .i64 j ∧ (xs.take j).all p = true) (fun i => xs.length - (intOf i).toNat)
  case atStart => exact ⟨0, Nat.zero_le _, rfl, rfl⟩
  case round =>
    obtain ⟨j, hj, rfl, ha⟩ := hrel
    have Ha := Lib.hid ha
    clear ha
    by_cases hlt : j < xs.length
    · obtain ⟨b, off, rfl, hb, hc⟩ := hr (by omega)
      have hcj := hc j hlt
      have GF := Lib.hid (HP.out (xs.getD j 0))
      have hstep := Lib.hid (HA.out j hlt)
      have hsub : p (xs.getD j 0) = false → xs.all p = false := fun h => by
        rw [List.all_eq_false]
        exact ⟨xs[j], List.getElem_mem hlt, by simpa [List.getD, List.getElem?_eq_getElem hlt] using h⟩
      have d1 : decide ((j : Int) < (xs.length : Int)) = true := decide_eq_true (by omega)
      have d2 : decide (j < xs.length) = true := decide_eq_true hlt
      generalize xs.getD j 0 = z at *
      obtain ⟨t, ht⟩ : ∃ t : Bool, p z = t := ⟨_, rfl⟩
      rw [ht] at GF
      cases t with
      | true =>
        have Ht := Lib.hid ht
        clear ht hsub hc
        go_wp2_with (go_at_call 90; refine (GF.out _).mono ?_; rintro e w1 ⟨rfl, rfl⟩)
        go_round
        case rel => exact ⟨j + 1, hlt, by go_num, by rw [hstep.out, Ha.out, Ht.out]; rfl⟩
        case measure => simp [intOf] <;> omega
      | false =>
        have hf := Lib.hid (hsub ht)
        clear ht hsub hc
        go_wp2_with (go_at_call 90; refine (GF.out _).mono ?_; rintro e w1 ⟨rfl, rfl⟩)
        go_ret
        exact ⟨by rw [hf.out]; rfl, rfl⟩
    · obtain rfl : j = xs.length := by omega
      have d1 : decide ((xs.length : Int) < (xs.length : Int)) = false := decide_eq_false (by omega)
      have d2 : decide (xs.length < xs.length) = false := decide_eq_false (by omega)
      rw [HE.out] at Ha
      go_wp2
      go_ret
      exact ⟨by rw [Ha.out]; rfl, rfl⟩

set_option maxHeartbeats 1600000 in
theorem all2_any (p : Int → Bool) (hp : ∀ x W, Calls Tryd.prog 91 #[.int .i64 x] W fun e w' => e = .returned (.bool (p x)) ∧ W = w') (A : Option Addr) (xs : List Int) (c : Nat) (w : World) (hl : xs.length ≤ 100) (hr : Holds w w.heap.size .i64 A xs) :
    Calls Tryd.prog 89 #[.func (.func 91) #[] #[], .slice A xs.length c] w fun e w' => e = .returned (.bool (xs.all p)) ∧ w = w' := by
  have HP := Lib.hid hp
  have HA := Lib.hid (fun j (h : j < xs.length) => take_all p xs j h)
  have HE : Hid (xs.take xs.length = xs) := Lib.hid List.take_length
  clear hp
  go_enter Tryd.func89, Tryd.ntmps89
  go_wp2
  go_loop [9] (fun i => ∃ j : Nat, j ≤ xs.length ∧ i = .int .i64 j ∧ (xs.take j).all p = true) (fun i => xs.length - (intOf i).toNat)
  case atStart => exact ⟨0, Nat.zero_le _, rfl, rfl⟩
  case round =>
    obtain ⟨j, hj, rfl, ha⟩ := hrel
    have Ha := Lib.hid ha
    clear ha
    by_cases hlt : j < xs.length
    · obtain ⟨b, off, rfl, hb, hc⟩ := hr (by omega)
      have hcj := hc j hlt
      have GF := Lib.hid (HP.out (xs.getD j 0))
      have hstep := Lib.hid (HA.out j hlt)
      have hsub : p (xs.getD j 0) = false → xs.all p = false := fun h => by
        rw [List.all_eq_false]
        exact ⟨xs[j], List.getElem_mem hlt, by simpa [List.getD, List.getElem?_eq_getElem hlt] using h⟩
      have d1 : decide ((j : Int) < (xs.length : Int)) = true := decide_eq_true (by omega)
      have d2 : decide (j < xs.length) = true := decide_eq_true hlt
      generalize xs.getD j 0 = z at *
      obtain ⟨t, ht⟩ : ∃ t : Bool, p z = t := ⟨_, rfl⟩
      rw [ht] at GF
      cases t with
      | true =>
        have Ht := Lib.hid ht
        clear ht hsub hc
        go_wp2_with (go_at_call 91; refine (GF.out _).mono ?_; rintro e w1 ⟨rfl, rfl⟩)
        go_round
        case rel => exact ⟨j + 1, hlt, by go_num, by rw [hstep.out, Ha.out, Ht.out]; rfl⟩
        case measure => simp [intOf] <;> omega
      | false =>
        have hf := Lib.hid (hsub ht)
        clear ht hsub hc
        go_wp2_with (go_at_call 91; refine (GF.out _).mono ?_; rintro e w1 ⟨rfl, rfl⟩)
        go_ret
        exact ⟨by rw [hf.out]; rfl, rfl⟩
    · obtain rfl : j = xs.length := by omega
      have d1 : decide ((xs.length : Int) < (xs.length : Int)) = false := decide_eq_false (by omega)
      have d2 : decide (xs.length < xs.length) = false := decide_eq_false (by omega)
      rw [HE.out] at Ha
      go_wp2
      go_ret
      exact ⟨by rw [Ha.out]; rfl, rfl⟩
end Go.Proofs.YtpnodocjpedcmaaDoor.Jr

namespace Go.Proofs.YtpnodocjpedcmaaDoor.Kit
open Go.ChangeShapes Go.WideShapes Go.ChangeAt Go.RowKit

/-- v is a slice of the call's own, from block B on (or nil), and holds the values us. -/
def OwnV (w : World) (B : Nat) (e : TypeId) (v : Value) (us : List Value) : Prop := w.ownsRow B e 1 v us.length us
/-- t is the type of slices over e, of one cell. -/
def ValElem (P : Program) (t e : TypeId) (z : Value) (bytes : Nat) : Prop :=
  P.underlying t = some (.slice e) ∧ (P.info? e).map (fun i => (i.zero, i.size, i.bytes)) = some (some z, 1, bytes) ∧ z.cells.size = 1 ∧ bytes ≤ 64

section
variable {P : Program} {w w' : World} {B : Nat} {e : TypeId} {v : Value} {us : List Value}

theorem OwnV.nil (w : World) (B : Nat) (e : TypeId) : OwnV w B e (.slice none 0 0) [] := World.ownsRow_nil w B e 1
theorem OwnV.empty (w : World) (e : TypeId) (hB : B ≤ w.heap.size) : OwnV (w.alloc (.cells #[] e)) B e (.slice (some ⟨w.heap.size, 0, none⟩) 0 0) [] :=
  World.ownsRow_lit (size := 1) w #[] 0 hB (Nat.zero_le _) rfl
theorem OwnV.one (w : World) (e : TypeId) (hB : B ≤ w.heap.size) (u : Value) : OwnV (w.alloc (.cells #[u] e)) B e (.slice (some ⟨w.heap.size, 0, none⟩) 1 1) [u] :=
  World.ownsRow_lit (size := 1) w #[u] 1 hB (by decide) rfl
theorem OwnV.lt (h : OwnV w B e v us) : ∀ g, v.ownBlock = some g → B ≤ g ∧ g < w.heap.size := World.ownsRow.lt h
theorem OwnV.alloc (h : OwnV w B e v us) (o : Obj) : OwnV (w.alloc o) B e v us := World.ownsRow.alloc h o
theorem OwnV.drewN (h : OwnV w B e v us) (n : Nat) : OwnV (w.drewN n) B e v us := h
theorem OwnV.mono {B' : Nat} (h : OwnV w B e v us) (hb : B' ≤ B) : OwnV w B' e v us := by
  rcases h.2 with ⟨rfl, h0⟩ | ⟨g, cap, cur, rfl, hbg, hrest⟩
  · exact ⟨h.1, .inl ⟨rfl, h0⟩⟩
  · exact ⟨h.1, .inr ⟨g, cap, cur, rfl, by omega, hrest⟩⟩
theorem OwnV.kept {row : Option Nat} (h : OwnV w B e v us) (hg : w.grownBy w' row) (hne : v.ownBlock = none ∨ v.ownBlock ≠ row) : OwnV w' B e v us := World.ownsRow.kept h hg hne
theorem OwnV.below (h : OwnV w B e v us) (hb : Below w.heap.size w w') : OwnV w' B e v us := by
  refine h.kept (row := none) ⟨hb.os, hb.tape, hb.output, hb.size, fun g hg _ => hb.block g hg⟩ ?_
  cases hv : v.ownBlock with
  | none => exact .inl rfl
  | some g => exact .inr (by simp)
theorem OwnV.opened (h : OwnV w B e v us) : ∃ (A : Option Addr) (cap : Nat), v = .slice A us.length cap ∧ us.length ≤ cap ∧ cap ≤ maxLen := by
  rcases h.2 with ⟨rfl, h0⟩ | ⟨g, cap, cur, rfl, hb, hg, hnc, hcm, hcs, htake⟩
  · exact ⟨none, 0, by rw [h0], by omega, Nat.zero_le _⟩
  · exact ⟨some ⟨g, 0, none⟩, cap, rfl, hnc, hcm⟩
theorem OwnV.cellAt {A : Option Addr} {n cap : Nat} (h : OwnV w B e (.slice A n cap) us) {i : Nat} (hi : i < us.length) : ∃ g, A = some ⟨g, 0, none⟩ ∧ g < w.heap.size ∧ w.cell? ⟨g, i, none⟩ = some us[i] := by
  rcases h.2 with ⟨h1, h0⟩ | ⟨g, cap, cur, h1, hb, hg, hnc, hcm, hcs, htake⟩
  · omega
  · injection h1 with h1 h2 h3
    subst h1 h2 h3
    refine ⟨g, rfl, (Array.getElem?_eq_some_iff.1 hg).1, ?_⟩
    rw [World.ownsRow.cellAt h i (by omega)]
    exact List.getElem?_eq_getElem hi

/-- Rows of other types of cells never share its block. -/
theorem OwnV.ne_block {g : Nat} {t : TypeId} {cs : Array Value} (h : OwnV w B e v us) (hg : Block w g t cs) (hne : t ≠ e) : v.ownBlock ≠ some g := by
  rcases h.2 with ⟨rfl, _⟩ | ⟨g', cap, cur, rfl, _, hh, _⟩
  · simp [Value.ownBlock]
  · intro he
    obtain rfl : g' = g := by simpa [Value.ownBlock] using he
    unfold Block at hg
    rw [hh] at hg
    injection hg with hg
    injection hg with _ ht
    exact hne ht.symm

/-- append(v, u): u lies alone in the newest block. -/
theorem wpList_append_val {ops : Array Oper} {rest : List Oper} {o : Oper} {a : Act} {Q : Exit → Act → World → Prop} (hgd : o.guard = none) (s x : Operand) (t : TypeId)
    (ho : o.op = .call { callee := .builtin .append, args := #[s, x], argTypes := #[t, t] }) {z : Value} {bytes : Nat} (he : ValElem P t e z bytes)
    (hown : OwnV w B e v us) (hs : a.eval s = v) {u : Value} {c : Nat} {e2 : TypeId} (hx : a.eval x = .slice (some ⟨w.heap.size, 0, none⟩) 1 c) (hu : u.oneCell' = true) (hsz : us.length + 1 ≤ 1099511627776) (hbase : B ≤ w.heap.size)
    (h : ∀ v' w', OwnV w' B e v' (us ++ [u]) → (w.alloc (.cells #[u] e2)).grownBy w' v.ownBlock → Below B w w' → wpList P ops Q rest (a.put o.dst v') w') :
    wpList P ops Q (o :: rest) a (w.alloc (.cells #[u] e2)) := by
  obtain ⟨ht, hinfo, hz1, hb8⟩ := he
  obtain ⟨i, hi, hz, hsi, hby⟩ := info_parts hinfo
  refine wpList_plain hgd fun K hK => ?_
  have hmul : (us.length + 1) * bytes ≤ (us.length + 1) * 64 := Nat.mul_le_mul_left _ hb8
  obtain ⟨v', w', hrun, h2, h3, _, _⟩ := run_append_own_at (P := P) (w.alloc (.cells #[u] e2)) B t o.type e i z 1 bytes ht hi hz hsi hby hz1 (by omega) v us.length us (hown.alloc _)
    ⟨w.heap.size, 0, none⟩ 1 c [u] rfl (by
      intro j y hj
      have hj0 : j = 0 := by
        rcases j with _ | j
        · rfl
        · simp at hj
      subst hj0
      obtain rfl : u = y := by simpa using hj
      rw [add_plain]
      exact cell_of_row (w.alloc (.cells #[u] e2)) w.heap.size 0 #[u] e2 (0, 0) (heap_alloc_new w _)) (by intro y hy; simp at hy; subst hy; exact hu) (by unfold maxLen; omega) (by omega) (by simp; omega)
  have h2 : OwnV w' B e v' (us ++ [u]) := by unfold OwnV; rw [List.length_append, List.length_singleton]; exact h2
  unfold Oper.wp
  simp only [execOp, ho, resolve, invoke, builtin, Sem.run_bind, Sem.run_pure, Result.andThen_ok, List.map_toArray, List.map_cons, List.map_nil, hs, hx, hrun]
  exact hK _ _ (h v' w' h2 h3 (((Below.refl B w).alloc hbase _).trans (below_of_grown h3 (by simp; omega) fun g hg => (hown.lt g hg).1)))
end

/-- A row of bytes that lies whole in a block of another type than e. -/
def RwArr (w : World) (e : TypeId) (r : Rw) : Prop := ∃ (g : Nat) (t : TypeId), t ≠ e ∧ r.A = some ⟨g, 0, none⟩ ∧ r.cap = r.zs.length ∧ r.zs.length ≤ 100000 ∧ Octets r.zs ∧ Arr w g t .u8 r.zs
section
variable {w w' : World} {B : Nat} {e : TypeId} {v : Value} {rs : List Rw} {r : Rw}
theorem RwArr.ok (h : RwArr w e r) : RwOk w w.heap.size r := by
  obtain ⟨g, t, _, hA, hc, hl, ho, ha⟩ := h
  refine ⟨by omega, by unfold maxLen; omega, ho, ?_⟩
  rw [hA]
  exact ha.holds_all
theorem RwArr.below (h : RwArr w e r) (hb : Below w.heap.size w w') : RwArr w' e r := by
  obtain ⟨g, t, h0, hA, hc, hl, ho, ha⟩ := h
  exact ⟨g, t, h0, hA, hc, hl, ho, Block.below ha hb (Block.lt ha)⟩
theorem RwArr.grown {us : List Value} (h : RwArr w e r) (hown : OwnV w B e v us) (hg : w.grownBy w' v.ownBlock) : RwArr w' e r := by
  obtain ⟨g, t, h0, hA, hc, hl, ho, ha⟩ := h
  exact ⟨g, t, h0, hA, hc, hl, ho, Block.grown ha hg (hown.ne_block ha h0)⟩
theorem RwArr.mk {g : Nat} {t : TypeId} {xs : List Int} (ha : Arr w g t .u8 xs) (h0 : t ≠ e) (ho : Octets xs) (hl : xs.length ≤ 100000) : RwArr w e ⟨some ⟨g, 0, none⟩, xs.length, xs⟩ :=
  ⟨g, t, h0, rfl, rfl, hl, ho, ha⟩
theorem OwnV.rows {A : Option Addr} {n cap : Nat} (h : OwnV w B e (.slice A n cap) (rs.map Rw.val)) (hr : ∀ r ∈ rs, RwArr w e r) : HoldsW w w.heap.size A rs := by
  intro hx
  obtain ⟨g, rfl, hlt, _⟩ := h.cellAt (i := 0) (by simpa using hx)
  refine ⟨g, 0, rfl, hlt, fun i r hi => ?_⟩
  have hok := (hr r (List.mem_of_getElem? hi)).ok
  refine ⟨_, ⟨rfl, hok⟩, rfl, fun j u hj => ?_⟩
  have hj0 : j = 0 := by
    rcases j with _ | j
    · rfl
    · simp at hj
  subst hj0
  obtain ⟨hil, hir⟩ := List.getElem?_eq_some_iff.1 hi
  obtain ⟨g2, e2, _, hc⟩ := h.cellAt (i := i) (by simpa using hil)
  injection e2 with e2
  injection e2 with e2
  subst e2
  rw [Nat.zero_add, Nat.mul_one, Nat.add_zero, hc]
  have hu : u = r.val := by simpa [Rw.val] using hj.symm
  subst hu
  rw [List.getElem_map, hir]
end
end Go.Proofs.YtpnodocjpedcmaaDoor.Kit

namespace Go.Proofs.YtpnodocjpedcmaaDoor.Jr
open Go.ChangeShapes Go.WideShapes Go.ChangeAt Go.RowKit Go.Proofs.YtpnodocjpedcmaaDoor.Kit

def recDs : List Fld := [.i .u64, .i .u8, .i .u64, .i .i64, .i .u8, .i .u8, .a .u8 32, .i .u64, .i .i64, .i .i64, .i .u64, .i .i64, .i .i64]
theorem rec_of {w : World} {B : Nat} {vs : List FVal} (h : allOk w B recDs vs) : ∃ r : Rec, r.Ok ∧ True ∧ allCells recDs vs = r.cells := by
  match vs, h with
  | [.i sq, .i ac, .i vr, .i le, .i st, .i md, .a mn, .i nv, .i nl, .i dn, .i at_, .i bk, .i az], ⟨h0, h1, h2, h3, h4, h5, h6, h7, h8, h9, h10, h11, h12, _⟩ =>
    have b7 := bounds_u64 h7
    have b10 := bounds_u64 h10
    have b0 := bounds_u64 h0
    have b2 := bounds_u64 h2
    refine ⟨⟨sq, ac, vr, le, st, md, mn, nv, nl, dn, at_, bk, az⟩, ⟨⟨b0.1, by have := b0.2; show sq < _; omega⟩, bounds_u8 h1, ⟨b2.1, by have := b2.2; show vr < _; omega⟩, bounds_i64 h3, bounds_u8 h4, bounds_u8 h5, h6.1, fun z hz => bounds_u8 (h6.2 z hz), ⟨b7.1, by have := b7.2; show nv < _; omega⟩, bounds_i64 h8, bounds_i64 h9, ⟨b10.1, by have := b10.2; show at_ < _; omega⟩, bounds_i64 h11, bounds_i64 h12⟩, trivial, ?_⟩
    simp [allCells, recDs, fvCells, Rec.cells]
end Go.Proofs.YtpnodocjpedcmaaDoor.Jr
