/-
  InflateBounds: the walk: what is told is never more than the most, and what is held is bounded.
-/
import Derived.Test.YthmkeflkhocobaaDoorMInY
import Derived.Test.YthmkeflkhocobaaDoorMGInds8
import Derived.BigQuiet
import Derived.Lib.QuietBelow
namespace Go.Proofs.YthmkeflkhocobaaDoor.InflateBounds
open Go.ChangeShapes Go.WideShapes Go.ChangeAt Go.RowKit Go.Proofs.YthmkeflkhocobaaDoor.Kit Go.Proofs.YthmkeflkhocobaaDoor.Bits Go.Proofs.YthmkeflkhocobaaDoor.Inf Go.Proofs.YthmkeflkhocobaaDoor.Df
open Go.Proofs.YthmkeflkhocobaaDoor.Rj (greatR greatR_any greatR_no)

set_option maxRecDepth 100000 in
set_option maxHeartbeats 12800000 in
theorem walk (A : Option Addr) (rs : List Rw) (c : Nat) (m : Int) (w : World) (hc : rs.length ≤ c) (hm : c ≤ maxLen) (hr : HoldsW w w.heap.size A rs) (hmw : (Lit.int .i64 m).wf = true) (hL : Laid 3 turnsL w) :
    Calls Tryd.prog 7 #[.slice A rs.length c, .int .i64 m] w fun e w' => e = .returned (.bool true) ∧ Below w.heap.size w w' := by
  have G0 := Lib.hid (greatR_any A rs c w hc hm hr)
  unfold maxLen at hm
  have hgl : 3 < w.heap.size := World.block_lt_of_cell? _ _ (hL 0 (by decide))
  have GA := Lib.hid (fun (W : World) (hB : Below w.heap.size w W) => awake13 W (fun k hk => (hB.cell (p := ⟨_, k, none⟩) hgl).trans (hL k hk)))
  unfold AwakeTo at GA
  have HL := Lib.hid hL
  have HR := Lib.hid hr
  obtain ⟨gb, hgb⟩ : ∃ gb, greatR rs = gb := ⟨_, rfl⟩
  rw [hgb] at G0
  have HGB := Lib.hid hgb
  clear hr hL hgb hmw
  cases gb with
  | true =>
    go_enter Tryd.func7, Tryd.ntmps7
    go_wp2_with (first
      | (go_at_call 21; refine G0.out.mono ?_; rintro e w1 ⟨rfl, rfl⟩)
      | (go_at_call 18; refine (GA.out _ (Below.refl _ _)).mono ?_; rintro e w1 ⟨rfl, hb1⟩))
    go_ret
    exact ⟨rfl, hb1⟩
  | false =>
    obtain ⟨hn60, hz400⟩ := greatR_no HGB.out
    by_cases h0 : m < 0
    · have d1 : decide (m < 0) = true := decide_eq_true h0
      go_enter Tryd.func7, Tryd.ntmps7
      go_wp2_with (first
        | (go_at_call 21; refine G0.out.mono ?_; rintro e w1 ⟨rfl, rfl⟩)
        | (go_at_call 18; refine (GA.out _ (Below.refl _ _)).mono ?_; rintro e w1 ⟨rfl, hb1⟩))
      go_ret
      exact ⟨rfl, hb1⟩
    have d1 : decide (m < 0) = false := decide_eq_false h0
    by_cases h1 : 100000 < m
    · have d2 : decide ((100000 : Int) < m) = true := decide_eq_true h1
      go_enter Tryd.func7, Tryd.ntmps7
      go_wp2_with (first
        | (go_at_call 21; refine G0.out.mono ?_; rintro e w1 ⟨rfl, rfl⟩)
        | (go_at_call 18; refine (GA.out _ (Below.refl _ _)).mono ?_; rintro e w1 ⟨rfl, hb1⟩))
      go_ret
      exact ⟨rfl, hb1⟩
    have d2 : decide ((100000 : Int) < m) = false := decide_eq_false h1
    have hmost : most0 m = m := by unfold most0; rw [if_neg h0]
    have GN := Lib.hid (new_any m (by omega) w)
    unfold NewTo at GN
    rw [hmost] at GN
    have HZ4 := Lib.hid hz400
    have hmb : 0 ≤ m ∧ m ≤ 1000000 := by omega
    clear hmost hz400
    go_enter Tryd.func7, Tryd.ntmps7
    go_upto_region 6 with (first
      | (go_at_call 21; refine G0.out.mono ?_; rintro e w1 ⟨rfl, rfl⟩)
      | (go_at_call 24; refine GN.out.mono ?_; rintro e w1 ⟨rfl, i1, b1, hs1⟩; have I1 := Lib.hid i1; have B1 := Lib.hid b1; clear i1 b1))
    clear GN G0
    go_loopw [6, 7] (fun x6 x7 wr => ∃ (i : Nat) (lg : Int) (b : List Int) (s : St) (p : Nat) (e0 : Int) (vr vs vd : Value) (A' : Option Addr) (c' : Nat), i ≤ rs.length ∧ x7 = .int .i64 i ∧ x6 = .int .i64 lg ∧ 0 ≤ lg ∧ lg ≤ 400 ∧ Octets b ∧ b.length ≤ 400 * i ∧ Infl wr w.heap.size w.heap.size m b s p e0 vr vs vd A' c' ∧ Below w.heap.size w wr) (fun _ x7 _ => rs.length - (intOf x7).toNat)
    case atStart => exact ⟨0, 0, [], St.new, 0, 2, _, _, _, none, 0, Nat.zero_le _, rfl, rfl, by omega, by omega, (fun _ h => absurd h (by simp)), by simp, I1.out, B1.out⟩
    case round =>
      obtain ⟨i, lg, b, s, p, e0, vr, vs, vd, A', c', hi, rfl, rfl, hlg0, hlg1, hob, hbl, inf, hb⟩ := hrel
      have IN := Lib.hid inf
      have BB := Lib.hid hb
      have HOB := Lib.hid hob
      by_cases hlt : i < rs.length
      · obtain ⟨rb, off, rfl, hrb, c0, k1, k2, hoz, hrz⟩ := rwAt (HR.out.below hb) hlt
        have hz := HZ4.out _ (List.getElem_mem hlt)
        generalize rs[i] = r at *
        have hil : decide ((i : Int) < (rs.length : Int)) = true := decide_eq_true (by omega)
        have hil2 : decide (i < rs.length) = true := decide_eq_true hlt
        have hil3 : (i : Int) < (rs.length : Int) := by omega
        have hi0 : (0 : Int) ≤ (i : Int) := by omega
        have GW := Lib.hid (write_any w.heap.size w.heap.size m b r.zs s p e0 vr vs vd A' c' r.A r.cap wr inf (hrz.more hb.size) hob hoz (by omega) (by omega) hb.size hmb (fun k hk => (hb.cell (p := ⟨_, k, none⟩) hgl).trans (HL.out k hk)) hgl)
        unfold WriteTo at GW
        obtain ⟨lg2, hlg2⟩ : ∃ lg2 : Int, (if lg < (r.zs.length : Int) then (r.zs.length : Int) else lg) = lg2 := ⟨_, rfl⟩
        have hlgb : lg ≤ lg2 ∧ (r.zs.length : Int) ≤ lg2 ∧ lg2 ≤ 400 := by split at hlg2 <;> omega
        have HLG := Lib.hid hlg2
        have hrcell : ∀ W, TurnsIn (fun g => g = w.heap.size ∨ (Value.slice A' s.out.length c').ownBlock = some g) wr W → W.cell? ⟨rb, off + i, none⟩ = some (.slice r.A r.zs.length r.cap) := fun W t => by
          have hrl : rb < wr.heap.size := by have := hb.size; omega
          refine (World.cell?_of_block (w := wr) (a := ⟨rb, off + i, none⟩) (t.block rb hrl (fun he => ?_))).trans c0
          rcases he with he | he
          · omega
          · have := (inf.ia.own.lt _ he).1
            omega
        have HRC := Lib.hid hrcell
        have hoz2 := Lib.hid hoz
        clear inf hb hob hoz hrz hlg2 hrcell
        go_upto_region 9 with (first | (go_at_call 25; refine GW.out.mono ?_; rintro e w2 ⟨s2, p2, e2, vr2, vs2, vd2, A2, c2, rfl, i2, t2, n2⟩))
        have B2 := Lib.hid (BB.out.trans (t2.toBelow (B := w.heap.size) BB.out.size (fun g hg he => by
          rcases he with he | he
          · omega
          · have := (IN.out.ia.own.lt _ he).1
            omega)))
        have c02 := HRC.out w2 t2
        have I2 := Lib.hid i2
        have hol := (i2.st.le hmb.1).1.len
        have GO := Lib.hid (out_any _ _ _ _ _ _ _ _ _ _ _ _ w2 i2)
        clear i2 t2 n2 GW
        have hmx := HLG.out
        have dlen : decide (m < (s2.out.length : Int)) = false := decide_eq_false (by omega)
        have v1 : IntKind.i64.wrap (2 * m) = 2 * m := by rw [IntKind.wrap_i64]; omega
        have v2 : IntKind.i64.wrap (2 * lg2) = 2 * lg2 := by rw [IntKind.wrap_i64]; omega
        have v3 : IntKind.i64.wrap (2 * m + 2 * lg2) = 2 * m + 2 * lg2 := by rw [IntKind.wrap_i64]; omega
        have v4 : IntKind.i64.wrap (2 * m + 2 * lg2 + 2048) = 2 * m + 2 * lg2 + 2048 := by rw [IntKind.wrap_i64]; omega
        go_upto_region 7 with (first
          | (go_at_call 26; refine GO.out.mono ?_; rintro e w3 ⟨v3, rfl, o3, b3⟩; obtain ⟨A3, c3, rfl, _, _, _⟩ := o3.opened; have I3 := Lib.hid (I2.out.below b3); have B3 := Lib.hid (B2.out.trans (b3.mono B2.out.size)); clear o3 b3)
          | (have _t := I3; clear _t; go_at_call 28; refine (held_any _ _ _ _ _ _ _ _ _ _ _ _ w3 I3.out).mono ?_; rintro e w4 ⟨⟨n, rfl, hn0, hn1⟩, b4⟩; have dn : decide (2 * m + 2 * lg2 + 2048 < n) = false := decide_eq_false (by omega); have I4 := Lib.hid (I3.out.below b4); have B4 := Lib.hid (B3.out.trans (b4.mono B3.out.size)); clear b4 I3))
        go_wp2_with fail
        go_roundw
        case rel =>
          refine ⟨i + 1, lg2, b ++ r.zs, s2, p2, e2, vr2, vs2, vd2, A2, c2, by omega, by go_num, rfl, by omega, by omega, Octets.append HOB.out hoz2.out, by rw [List.length_append]; omega, I4.out, B4.out⟩
        case measure => simp [intOf] <;> omega
      · obtain rfl : i = rs.length := by omega
        go_wp2_with (go_at_call 18; refine (GA.out _ BB.out).mono ?_; rintro e w5 ⟨rfl, hb5⟩)
        go_ret
        exact ⟨rfl, BB.out.trans (hb5.mono BB.out.size)⟩
end Go.Proofs.YthmkeflkhocobaaDoor.InflateBounds
