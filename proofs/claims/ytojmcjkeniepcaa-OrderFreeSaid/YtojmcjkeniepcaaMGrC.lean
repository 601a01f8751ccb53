/-
  Layer 18, the document's Right: a contract. Conditions: as each theorem names.
-/
import Derived.Test.YtojmcjkeniepcaaMGrB
namespace Go.Proofs.Ytojmcjkeniepcaa.Gr
open Go.ChangeShapes Go.WideShapes Go.ChangeAt Go.RowKit Go.Proofs.Ytojmcjkeniepcaa.Kit

/-- A number at k of row i that is right, among n blocks. -/
def GoodAt (n i : Nat) (l : List Int) (k : Nat) : Prop := 0 ≤ l.getD k 0 ∧ l.getD k 0 < n ∧ l.getD k 0 ≠ i ∧ (0 < k → l.getD (k - 1) 0 < l.getD k 0)
instance (n i : Nat) (l : List Int) (k : Nat) : Decidable (GoodAt n i l k) := by unfold GoodAt; infer_instance
def GoodRow (n i : Nat) (l : List Int) : Prop := ∀ k, k < l.length → GoodAt n i l k
instance (n i : Nat) (l : List Int) : Decidable (GoodRow n i l) := by unfold GoodRow; infer_instance
def RightL (L : List (List Int)) : Prop := L.length ≤ 4096 ∧ ∀ i, i < L.length → GoodRow L.length i (L.getD i [])
instance (L : List (List Int)) : Decidable (RightL L) := by unfold RightL; infer_instance
theorem rowsL_length (rs : List Ri) : (rowsL rs).length = rs.length := by unfold rowsL; simp
theorem rowsL_getD {rs : List Ri} {i : Nat} (h : i < rs.length) : (rowsL rs).getD i [] = rs[i].zs := by
  unfold rowsL
  rw [List.getD, List.getElem?_map, List.getElem?_eq_getElem h]
  rfl

set_option maxHeartbeats 12800000 in
theorem right_any (A : Option Addr) (rs : List Ri) (c : Nat) (w : World) (f : Few rs) (hr : HoldsI w w.heap.size A rs) :
    Calls Try.prog 21 #[.slice A rs.length c] w fun e w' => e = .returned (.bool (decide (RightL (rowsL rs)))) ∧ ∃ n, w' = w.drewN n := by
  obtain ⟨bv, hbv⟩ : ∃ bv, decide (RightL (rowsL rs)) = bv := ⟨_, rfl⟩
  rw [hbv]
  have HBV := Lib.hid hbv
  clear hbv
  by_cases h40 : 4096 < rs.length
  · obtain rfl : bv = false := by rw [← HBV.out]; exact decide_eq_false (fun h => by have := h.1; rw [rowsL_length] at this; omega)
    have d0 : decide ((4096 : Int) < (rs.length : Int)) = true := decide_eq_true (by omega)
    clear hr
    go_enter Try.func21, Try.ntmps21
    go_wp2_with fail
    go_ret
    exact ⟨rfl, 0, rfl⟩
  · have d0 : decide ((4096 : Int) < (rs.length : Int)) = false := decide_eq_false (by omega)
    have HBAD : Hid (∀ i, ∀ h : i < rs.length, ∀ k, k < rs[i].zs.length → ¬ GoodAt rs.length i rs[i].zs k → bv = false) := Lib.hid (fun i h k hk hg => by
      rw [← HBV.out]
      refine decide_eq_false (fun hR => hg ?_)
      have := hR.2 i (by rw [rowsL_length]; exact h)
      rw [rowsL_length, rowsL_getD h] at this
      exact this k hk)
    go_enter Try.func21, Try.ntmps21
    go_wp2_with fail
    go_loopw [11] (fun v wr => ∃ k d : Nat, k ≤ rs.length ∧ v = .int .i64 k ∧ (∀ i, i < k → GoodRow rs.length i ((rowsL rs).getD i [])) ∧ wr = w.drewN d) (fun v _ => rs.length - (intOf v).toNat)
    case atStart => exact ⟨0, 0, Nat.zero_le _, rfl, fun i hi => absurd hi (by omega), rfl⟩
    case round =>
      obtain ⟨i, d, hi, rfl, hg, hwr⟩ := hrel
      have hcw : ∀ p, wr.cell? p = w.cell? p := fun p => by rw [hwr]; rfl
      have HWR := Lib.hid hwr
      have HG := Lib.hid hg
      clear hwr hg
      by_cases hlt : i < rs.length
      · have d1 : decide (i < rs.length) = true := decide_eq_true hlt
        obtain ⟨b, off, rfl, -, hc1, -, -, -, hh⟩ := riAt hr hlt
        have q1 := (hcw _).trans hc1
        have i1 : (i : Int) < (rs.length : Int) := by omega
        have HB1 := Lib.hid (HBAD.out i hlt)
        have HNX : Hid (GoodRow rs.length i rs[i].zs → ∀ j, j < i + 1 → GoodRow rs.length j ((rowsL rs).getD j [])) := Lib.hid (fun h j hj => by
          by_cases hji : j < i
          · exact HG.out j hji
          · obtain rfl : j = i := by omega
            rw [rowsL_getD hlt]; exact h)
        have hfw := f _ (List.getElem_mem hlt)
        generalize rs[i] = r at *
        obtain ⟨A5, c5, l⟩ := r
        simp only at q1 HB1 HNX hh hfw
        clear hc1 hr HBAD hcw
        go_wp2_with fail
        go_loopw [20] (fun v wr => ∃ k d : Nat, k ≤ l.length ∧ v = .int .i64 k ∧ (∀ j, j < k → GoodAt rs.length i l j) ∧ wr = w.drewN d) (fun v _ => l.length - (intOf v).toNat)
        case atStart => exact ⟨0, d, Nat.zero_le _, rfl, fun j hj => absurd hj (by omega), HWR.out⟩
        case round =>
          obtain ⟨k, d2, hk, rfl, hgk, hwr2⟩ := hrel
          have hcw2 : ∀ p, wr.cell? p = w.cell? p := fun p => by rw [hwr2]; rfl
          have HWR2 := Lib.hid hwr2
          have HGK := Lib.hid hgk
          clear hwr2 hgk q1
          by_cases hlk : k < l.length
          · have dk : decide (k < l.length) = true := decide_eq_true hlk
            obtain ⟨b2, o2, rfl, -, hcl⟩ := hh (by omega)
            have q2 := (hcw2 _).trans (hcl k hlk)
            have HB2 := Lib.hid (HB1.out k hlk)
            have i2 : (k : Int) < (l.length : Int) := by omega
            have HN2 : Hid (GoodAt rs.length i l k → ∀ j, j < k + 1 → GoodAt rs.length i l j) := Lib.hid (fun h j hj => by
              by_cases hjk : j < k
              · exact HGK.out j hjk
              · obtain rfl : j = k := by omega
                exact h)
            have HQ3 : Hid (0 < k → wr.cell? ⟨b2, o2 + (k - 1), none⟩ = some (.int .i64 (l.getD (k - 1) 0))) := Lib.hid (fun h => (hcw2 _).trans (hcl (k - 1) (by omega)))
            unfold GoodAt at HB2 HN2
            generalize l.getD k 0 = x at *
            generalize l.getD (k - 1) 0 = y at *
            clear hcl hcw2 hh HB1 HBV
            by_cases hx0 : x < 0
            · have e1 : decide (x < 0) = true := decide_eq_true hx0
              obtain rfl : bv = false := HB2.out (by omega)
              go_wp2_with fail
              go_quiet (fail)
              go_wp2_with fail
              go_ret
              exact ⟨rfl, d2 + nq, by rw [HWR2.out, World.drewN_drewN]⟩
            · have e1 : decide (x < 0) = false := decide_eq_false hx0
              by_cases hxn : (rs.length : Int) ≤ x
              · have e2 : decide ((rs.length : Int) ≤ x) = true := decide_eq_true hxn
                obtain rfl : bv = false := HB2.out (by omega)
                go_wp2_with fail
                go_quiet (fail)
                go_wp2_with fail
                go_ret
                exact ⟨rfl, d2 + nq, by rw [HWR2.out, World.drewN_drewN]⟩
              · have e2 : decide ((rs.length : Int) ≤ x) = false := decide_eq_false hxn
                by_cases hxi : x = (i : Int)
                · have e3 : (x == (i : Int)) = true := by simpa using hxi
                  obtain rfl : bv = false := HB2.out (by omega)
                  clear hxi HB2 HN2
                  go_wp2_with fail
                  go_quiet (fail)
                  go_wp2_with fail
                  go_ret
                  exact ⟨rfl, d2 + nq, by rw [HWR2.out, World.drewN_drewN]⟩
                · have e3 : (x == (i : Int)) = false := by simpa using hxi
                  have HXI := Lib.hid hxi
                  clear hxi
                  by_cases hk0 : 0 < k
                  · have e4 : decide ((0 : Int) < (k : Int)) = true := decide_eq_true (by omega)
                    have q3 := HQ3.out hk0
                    by_cases hyx : x ≤ y
                    · have e5 : decide (x ≤ y) = true := decide_eq_true hyx
                      obtain rfl : bv = false := HB2.out (by omega)
                      go_wp2_with fail
                      go_quiet (fail)
                      go_wp2_with fail
                      go_ret
                      exact ⟨rfl, d2 + nq, by rw [HWR2.out, World.drewN_drewN]⟩
                    · have e5 : decide (x ≤ y) = false := decide_eq_false hyx
                      go_wp2_with fail
                      go_quiet (fail)
                      go_wp2_with fail
                      go_roundw
                      case rel => exact ⟨k + 1, d2 + nq, by omega, by go_num, HN2.out ⟨by omega, by omega, HXI.out, fun _ => by omega⟩, by rw [HWR2.out, World.drewN_drewN]⟩
                      case measure => simp [intOf]; omega
                  · have e4 : decide ((0 : Int) < (k : Int)) = false := decide_eq_false (by omega)
                    go_wp2_with fail
                    go_quiet (fail)
                    go_wp2_with fail
                    go_roundw
                    case rel => exact ⟨k + 1, d2 + nq, by omega, by go_num, HN2.out ⟨by omega, by omega, HXI.out, fun h => absurd h hk0⟩, by rw [HWR2.out, World.drewN_drewN]⟩
                    case measure => simp [intOf]; omega
          · have dk : decide (k < l.length) = false := decide_eq_false hlk
            go_wp2_with fail
            go_roundw
            case rel => exact ⟨i + 1, d2, by omega, by go_num, HNX.out (fun j hj => HGK.out j (by omega)), HWR2.out⟩
            case measure => simp [intOf]; omega
      · have d1 : decide (i < rs.length) = false := decide_eq_false hlt
        obtain rfl : bv = true := by
          rw [← HBV.out]
          refine decide_eq_true ⟨by rw [rowsL_length]; omega, fun j hj => ?_⟩
          rw [rowsL_length] at *
          exact HG.out j (by omega)
        clear hcw
        go_wp2_with fail
        go_ret
        exact ⟨rfl, d, HWR.out⟩
end Go.Proofs.Ytojmcjkeniepcaa.Gr
