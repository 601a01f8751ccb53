/-
  Layer 6, sector: Back: contract. Conditions: as each theorem names.
-/
import Derived.Test.YtpnodocjpedcmaaDoorSeJ
import Derived.Test.YtpnodocjpedcmaaDoorSkB
import Derived.RegionTactic
namespace Go.Proofs.YtpnodocjpedcmaaDoor.Sec
open Go.ChangeShapes Go.WideShapes Go.ChangeAt Go.RowKit Go.Proofs.YtpnodocjpedcmaaDoor.Kit Go.Maps Go.Proofs.YtpnodocjpedcmaaDoor.Sk

theorem backK_down (s : Dv) (picks : List Int) (n : Nat) : backK s.down picks n = backK s picks n := by
  unfold backK
  rw [s.down_waits, s.down_kept]
theorem back_form (s : Dv) (picks : List Int) : s.back picks = { s.down with kept := backK s.down picks s.down.waits.length, waits := [], fuse := -1, off := false } := by
  unfold Dv.back
  rw [backK_down, s.down_waits]

/-- It is back: nothing waits, no fuse, it is on. -/
theorem DvAt.returns {w : World} {I : Nat → Prop} {a mk mw : Nat} {s : Dv} (h : DvAt w I a mk mw s) :
    w.cell? ⟨a, 3, none⟩ = some (.map (some mw)) ∧ ∃ w1, (∀ ty, (Builtin.clear_ #[89] ty #[.map (some mw)]).run Tryd.prog w = .ok (.tuple #[]) w1) ∧
      (w1.cell? ⟨a, 6, none⟩ = some (.int .i64 s.fuse) ∧ w1.frozen? ⟨a, 6, none⟩ = false ∧ w1.cell? ⟨a, 4, none⟩ = some (.bool s.off) ∧ w1.frozen? ⟨a, 4, none⟩ = false) ∧
      DvAt ((w1.setCell ⟨a, 6, none⟩ (.int .i64 (-1))).setCell ⟨a, 4, none⟩ (.bool false)) I a mk mw { s with waits := [], fuse := -1, off := false } ∧
      TurnsIn (DSet a mk mw) w ((w1.setCell ⟨a, 6, none⟩ (.int .i64 (-1))).setCell ⟨a, 4, none⟩ (.bool false)) := by
  obtain ⟨w1, hrun, hm', ht⟩ := h.wt.clear Tryd.underlying89
  have t : TurnsIn (fun b => b = mw) w w1 := TurnsIn.ofGrown (row := some mw) ht.grown fun b hb => (Option.some.inj hb).symm
  have hS : ∀ b, b = mw → I b → ∀ cs f, w.heap[b]? ≠ some (.cells cs 5 f) := fun b hb _ => h.no_row b (Or.inr (Or.inr hb))
  have hh := h.ok
  have D1 : DvAt w1 I a mk mw { s with waits := [] } := ⟨h.blk.out t h.ne_w, h.k.out t h.ne hS, hm', h.ne, ⟨hh.s1, hh.s2, hh.c1, hh.c2, hh.ku, up_nil, hh.kr, fun _ h => (List.not_mem_nil h).elim, fun _ h => (List.not_mem_nil h).elim, hh.f1, hh.f2, hh.o1, hh.w1⟩⟩
  have h1 := D1.ok
  obtain ⟨D2, T2⟩ := D1.field 6 (.int .i64 (-1)) { s with waits := [], fuse := -1 } rfl rfl rfl rfl ⟨h1.s1, h1.s2, h1.c1, h1.c2, h1.ku, h1.wu, h1.kr, h1.wr_, h1.wn, Int.le_refl _, by show (-1 : Int) ≤ _; omega, h1.o1, h1.w1⟩
  have h2 := D2.ok
  obtain ⟨D3, T3⟩ := D2.field 4 (.bool false) { s with waits := [], fuse := -1, off := false } rfl rfl rfl rfl ⟨h2.s1, h2.s2, h2.c1, h2.c2, h2.ku, h2.wu, h2.kr, h2.wr_, h2.wn, h2.f1, h2.f2, h2.o1, h2.w1⟩
  exact ⟨h.blk.cell 3, w1, hrun, ⟨D1.blk.cell 6, D1.free 6, D1.blk.cell 4, D1.free 4⟩, D3, (t.mono fun b _ e => Or.inr (Or.inr e)).trans (T2.trans T3)⟩

/-- A round of Back. -/
structure BGoing (w0 w : World) (I : Nat → Prop) (a mk mw : Nat) (s : Dv) (v : Value) (B : Nat) (A : Option Addr) (xs : List Int) (kc : Sl) : Prop where
  d : DvAt w I a mk mw (s.with_ kc)
  t : TurnsIn (DSet a mk mw) w0 w
  own : Own w B 3 .i64 v (s.waits.map (·.1))
  p : Holds w w.heap.size .u8 A xs
theorem BGoing.drew {w0 w : World} {I : Nat → Prop} {a mk mw : Nat} {s : Dv} {v : Value} {B : Nat} {A : Option Addr} {xs : List Int} {kc : Sl} (h : BGoing w0 w I a mk mw s v B A xs kc) : BGoing w0 w.drew I a mk mw s v B A xs kc :=
  ⟨h.d.below (below_draws (Below.refl _ _) 1), h.t.drewN 1, h.own.drewN 1, h.p⟩
theorem BGoing.keep {w0 w w' : World} {I : Nat → Prop} {a mk mw : Nat} {s : Dv} {v : Value} {B : Nat} {A : Option Addr} {xs : List Int} {kc l : Sl} (h : BGoing w0 w I a mk mw s v B A xs kc) (hm : MapAt w' I RK mk s.size l) (hu : Up l) (hr : ∀ p ∈ l, 0 ≤ p.1 ∧ p.1 < s.count) (t : w.mapTurned w' mk) : BGoing w0 w' I a mk mw s v B A xs l := by
  obtain ⟨D, T⟩ := h.d.keep hm hu hr t
  exact ⟨D, h.t.trans T, h.d.own T h.own (by decide), (h.d.holds T h.p (Nat.le_refl _)).more T.size⟩

set_option maxRecDepth 100000 in
set_option maxHeartbeats 6400000 in
theorem back_any (I : Nat → Prop) (a mk mw : Nat) (s : Dv) (A : Option Addr) (xs : List Int) (c : Nat) (w : World) (h : DvAt w I a mk mw s) (hI : ∀ g, w.heap.size ≤ g → I g) (hx : xs.length ≤ 1000000000) (ho : Octets xs) (hr : Holds w w.heap.size .u8 A xs) (hof : s.offs ≤ 1000000000) :
    Calls Tryd.prog 14 #[.pointer (some ⟨a, 0, none⟩), .slice A xs.length c] w (Leaves I a mk mw w (s.back xs) (.tuple #[])) := by
  have GO := Lib.hid (off_any I a mk mw s w h hof)
  rw [back_form]
  have hold := Lib.hid (fun w1 (t : TurnsIn (DSet a mk mw) w w1) => (h.holds t hr (Nat.le_refl _)).more t.size)
  generalize s.down = s1 at *
  clear h hr hof
  go_enter Tryd.func14, Tryd.ntmps14
  go_wp2_with (first
    | (go_at_call 20; (with_reducible refine GO.out.mono ?_); rintro e w1 ⟨rfl, hd, ht⟩; have q3 := hd.reads.2.2.2.1; have HOK := Lib.hid hd.ok; have GS := Lib.hid (sorted_map hd.wt hd.ok.wu (waits_few hd.ok)))
    | (go_at_call 47; (with_reducible refine (keys_any _ _).mono ?_); rintro e w2 ⟨rfl, rfl⟩)
    | (go_at_call 46; (with_reducible refine GS.out.mono ?_); rintro e w3 ⟨v, rfl, own, hb3⟩; obtain ⟨A3, c3, he3, -⟩ := own.opened; rw [List.length_map] at he3; subst he3; have hgo : BGoing w w3 I a mk mw s1 (.slice A3 s1.waits.length c3) w1.heap.size A xs (backK s1 xs 0) := ⟨hd.below hb3, ht.trans (.ofNew hb3), own, (((hold.out _ ht).below hb3)).more hb3.size⟩; clear own hb3 hd ht q3))
  clear GO GS hold
  generalize w1.heap.size = B1 at *
  have hwf := waits_few HOK.out
  have HBK := Lib.hid (fun k hk => backK_ok HOK.out xs k hk)
  have HBN := Lib.hid (fun k => backK_next s1 xs k)
  have HW := Lib.hid HOK.out.wr_
  have HWN := Lib.hid HOK.out.wn
  have HKF := Lib.hid (fun (l : Sl) (hu : Up l) (hr : ∀ p ∈ l, 0 ≤ p.1 ∧ p.1 < s1.count) => (by have := up_length l 0 hu hr; have := HOK.out.c2; omega : l.length < 1000000000))
  have HC2 := HOK.out.c2
  go_loopw [18] (fun i wz => ∃ k : Nat, k ≤ s1.waits.length ∧ i = .int .i64 k ∧ BGoing w wz I a mk mw s1 (.slice A3 s1.waits.length c3) B1 A xs (backK s1 xs k)) (fun i _ => s1.waits.length - (intOf i).toNat)
  case atStart => exact ⟨0, Nat.zero_le _, rfl, hgo⟩
  case round =>
    clear hgo
    obtain ⟨k, hk, rfl, hgo⟩ := hrel
    by_cases hlt : k < s1.waits.length
    · have hks : (s1.waits.map (·.1)).length = s1.waits.length := List.length_map _
      obtain ⟨g, cap, he, hg1, hg2, _⟩ := hgo.own.form (by omega)
      rw [hks] at he
      injection he with he1 he2 he3
      subst he1 he3
      have hcell := hgo.own.cellAt (i := k) hks.symm (by omega)
      have hp : s1.waits[k]? = some (s1.waits.getD k (0, none)) := by simp [List.getD, List.getElem?_eq_getElem hlt]
      have hgk : (s1.waits.map (·.1)).getD k 0 = (s1.waits.getD k (0, none)).1 := by simp [List.getD, List.getElem?_eq_getElem hlt]
      have hgk' : (s1.waits.map (·.1))[k]?.getD 0 = (s1.waits.getD k (0, none)).1 := by rw [← hgk]; rfl
      have hmem : s1.waits.getD k (0, none) ∈ s1.waits := List.mem_of_getElem? hp
      obtain ⟨hx1, hx2⟩ := HW.out _ hmem
      have hsome := getS_some HOK.out.wu hmem
      have hnn := HWN.out _ hmem
      have hnext := HBN.out k
      obtain ⟨hup, hrg⟩ := HBK.out k (by omega)
      obtain ⟨hup1, hrg1⟩ := HBK.out (k + 1) hlt
      generalize s1.waits.getD k (0, none) = q at *
      obtain ⟨x, o⟩ := q
      cases o with
      | none => exact absurd rfl hnn
      | some ys =>
      rw [hgk'] at hcell
      simp only at hx1 hx2 hsome
      have hxb : -9223372036854775808 ≤ x ∧ x ≤ 9223372036854775807 := by omega
      have d1 : decide ((k : Int) < (s1.waits.length : Int)) = true := decide_eq_true (by omega)
      have d2 : decide (k < s1.waits.length) = true := decide_eq_true hlt
      generalize hkn : backK s1 xs (k + 1) = kn at *
      generalize hkc : backK s1 xs k = kc at *
      have HKN : Hid (backK s1 xs (k + 1) = kn) := Lib.hid hkn
      obtain ⟨y0, y1, y2, y3, y4, y5, y6, y7⟩ := hgo.d.reads
      clear hkn hkc hgk hp hmem hnn he2 hks
      unfold backStep at hnext
      by_cases hpl : k < xs.length
      · obtain ⟨bp, op, rfl, _, hcp⟩ := hgo.p (by omega)
        have hpick := hcp k hpl
        clear hcp
        generalize xs.getD k 0 = pk at *
        have d3 : decide ((k : Int) < (xs.length : Int)) = true := decide_eq_true (by omega)
        have d4 : decide (k < xs.length) = true := decide_eq_true hpl
        by_cases hp1 : pk = 1
        · rw [if_pos hp1] at hnext
          have b1 : (pk == 1) = true := by simpa using hp1
          have D := hgo.drew
          have Dk : MapAt wr.drew I RK mk s1.size kc := D.d.k
          have Dw : MapAt wr.drew I RW mw s1.size s1.waits := D.d.wt
          obtain ⟨g1, m1, hlk, hl1, ho1, hI1, own1⟩ := Dw.look_yes x hxb ys hsome false
          simp only [Bool.false_eq_true, if_false] at hlk
          obtain ⟨w6, hst, hm6, ht6⟩ := Dk.store Tryd.underlying88 hup (HKF.out kc hup hrg) x hxb _ (some ys) (GoodV.kept hI1 hl1 ho1 own1)
          have hnx := D.keep hm6 (by rw [← hnext]; exact hup1) (by rw [← hnext]; exact hrg1) ht6
          rw [← hnext, ← HKN.out] at hnx
          have HNX := Lib.hid hnx
          clear hnx hm6 ht6 own1 hl1 ho1 hI1 Dk Dw D hgo hnext hsome hup hrg hup1 hrg1 hp1 HKN
          go_wp2_with fail
          go_region
          all_goals
            go_wp2_with fail
            go_roundw
            case rel => exact ⟨k + 1, hlt, by go_num, HNX.out⟩
            case measure => simp [intOf] <;> omega
        · rw [if_neg hp1] at hnext
          have b1 : (pk == 1) = false := by simpa using hp1
          by_cases hp2 : pk = 2
          · rw [if_pos hp2] at hnext
            have b2 : (pk == 2) = true := by simpa using hp2
            have Dk : MapAt wr I RK mk s1.size kc := hgo.d.k
            obtain ⟨w6, hst, hm6, ht6⟩ := Dk.store Tryd.underlying88 hup (HKF.out kc hup hrg) x hxb _ none GoodV.torn
            have hnx := hgo.keep hm6 (by rw [← hnext]; exact hup1) (by rw [← hnext]; exact hrg1) ht6
            rw [← hnext, ← HKN.out] at hnx
            have HNX := Lib.hid hnx
            clear hnx hm6 ht6 Dk hgo hnext hsome hup hrg hup1 hrg1 hp1 hp2 HKN
            go_wp2_with fail
            go_roundw
            case rel => exact ⟨k + 1, hlt, by go_num, HNX.out⟩
            case measure => simp [intOf] <;> omega
          · rw [if_neg hp2] at hnext
            have b2 : (pk == 2) = false := by simpa using hp2
            rw [← hnext, ← HKN.out] at hgo
            have HNX := Lib.hid hgo
            clear hgo hnext hsome hup hrg hup1 hrg1 hp1 hp2 HKN
            go_wp2_with fail
            go_roundw
            case rel => exact ⟨k + 1, hlt, by go_num, HNX.out⟩
            case measure => simp [intOf] <;> omega
      · have hp0 : xs.getD k 0 = 0 := by simp [List.getD, List.getElem?_eq_none (by omega : xs.length ≤ k)]
        rw [hp0, if_neg (by decide), if_neg (by decide)] at hnext
        have d3 : decide ((k : Int) < (xs.length : Int)) = false := decide_eq_false (by omega)
        have d4 : decide (k < xs.length) = false := decide_eq_false hpl
        rw [← hnext, ← HKN.out] at hgo
        have HNX := Lib.hid hgo
        clear hgo hnext hsome hup hrg hup1 hrg1 HKN hp0
        go_wp2_with fail
        go_roundw
        case rel => exact ⟨k + 1, hlt, by go_num, HNX.out⟩
        case measure => simp [intOf] <;> omega
    · obtain rfl : k = s1.waits.length := by omega
      have d1 : decide ((s1.waits.length : Int) < (s1.waits.length : Int)) = false := decide_eq_false (by omega)
      have d2 : decide (s1.waits.length < s1.waits.length) = false := decide_eq_false (by omega)
      obtain ⟨q3, w5, hclr, ⟨z1, z2, z3, z4⟩, hD, hT⟩ := hgo.d.returns
      have HD := Lib.hid hD
      have HT := Lib.hid (hgo.t.trans hT)
      clear hgo hD hT
      go_wp2_with fail
      exact bodyPost_end (results_none rfl _ _ _) rfl ⟨rfl, HD.out, HT.out⟩
end Go.Proofs.YtpnodocjpedcmaaDoor.Sec
