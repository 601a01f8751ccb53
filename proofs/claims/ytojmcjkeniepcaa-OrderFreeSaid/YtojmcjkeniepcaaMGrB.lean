/-
  Layer 18, the document's SameAll, Great: contracts. Conditions: as each theorem names.
-/
import Derived.Test.YtojmcjkeniepcaaMGrA
namespace Go.Proofs.Ytojmcjkeniepcaa.Gr
open Go.ChangeShapes Go.WideShapes Go.ChangeAt Go.RowKit Go.Proofs.Ytojmcjkeniepcaa.Kit

def rowsL (rs : List Ri) : List (List Int) := rs.map (·.zs)
theorem rowsL_next {rs : List Ri} {k : Nat} (h : k < rs.length) : rowsL (rs.take (k + 1)) = rowsL (rs.take k) ++ [rs[k].zs] := by
  unfold rowsL
  rw [List.take_succ_eq_append_getElem h, List.map_append]
  rfl
def Few (rs : List Ri) : Prop := ∀ r ∈ rs, r.zs.length ≤ 1000000

set_option maxHeartbeats 6400000 in
theorem sameall_any (A1 A2 : Option Addr) (a b : List Ri) (c1 c2 : Nat) (w : World) (hl : a.length ≤ 1000000) (_ : b.length ≤ 1000000) (f1 : Few a) (f2 : Few b) (h1 : HoldsI w w.heap.size A1 a) (h2 : HoldsI w w.heap.size A2 b) :
    Calls Try.prog 17 #[.slice A1 a.length c1, .slice A2 b.length c2] w fun e w' => e = .returned (.bool (decide (rowsL a = rowsL b))) ∧ ∃ n, w' = w.drewN n := by
  obtain ⟨bv, hbv⟩ : ∃ bv, decide (rowsL a = rowsL b) = bv := ⟨_, rfl⟩
  rw [hbv]
  have HBV := Lib.hid hbv
  clear hbv
  by_cases hlen : a.length = b.length
  case neg =>
    obtain rfl : bv = false := by rw [← HBV.out]; exact decide_eq_false (fun h => hlen (by have := congrArg List.length h; unfold rowsL at this; simpa using this))
    have d0 : ((a.length : Int) != (b.length : Int)) = true := by
      simp
      omega
    clear h1 h2 HBV f1 f2
    go_enter Try.func17, Try.ntmps17
    go_wp2_with fail
    go_ret
    exact ⟨rfl, 0, rfl⟩
  case pos =>
    have HLEN := Lib.hid hlen
    obtain ⟨n, hn⟩ : ∃ n, a.length = n := ⟨_, rfl⟩
    have hn2 : b.length = n := by omega
    rw [hn, hn2]
    have HA := Lib.hid hn
    have HB := Lib.hid hn2
    have hnn : ((n : Int) != (n : Int)) = false := by simp
    have hl3 : n ≤ 1000000 := by omega
    clear hlen hn hn2 hl
    go_enter Try.func17, Try.ntmps17
    go_wp2_with fail
    go_loopw [13] (fun v wr => ∃ k d : Nat, k ≤ n ∧ v = .int .i64 k ∧ rowsL (a.take k) = rowsL (b.take k) ∧ wr = w.drewN d) (fun v _ => n - (intOf v).toNat)
    case atStart => exact ⟨0, 0, Nat.zero_le _, rfl, rfl, rfl⟩
    case round =>
      obtain ⟨k, d, hk, rfl, hs, hwr⟩ := hrel
      have hcw : ∀ p, wr.cell? p = w.cell? p := fun p => by rw [hwr]; rfl
      have HWR := Lib.hid hwr
      have HS := Lib.hid hs
      clear hwr hs
      by_cases hlt : k < n
      · have d0 : decide (k < n) = true := decide_eq_true hlt
        have hka : k < a.length := by rw [HA.out]; exact hlt
        have hkb : k < b.length := by rw [HB.out]; exact hlt
        obtain ⟨b1, o1, rfl, -, hc1, -, -, -, hh1⟩ := riAt h1 hka
        obtain ⟨b2, o2, rfl, -, hc2, -, -, -, hh2⟩ := riAt h2 hkb
        have q1 := (hcw _).trans hc1
        have q2 := (hcw _).trans hc2
        have HN1 := Lib.hid (rowsL_next hka)
        have HN2 := Lib.hid (rowsL_next hkb)
        have i1 : (k : Int) < (n : Int) := by omega
        have HEQ : Hid (rowsL a = rowsL b → a[k].zs = b[k].zs) := Lib.hid (fun h => by
          have := congrArg (fun l => l[k]?) h
          unfold rowsL at this
          simpa [List.getElem?_eq_getElem hka, List.getElem?_eq_getElem hkb] using this)
        have GS := Lib.hid (fun W (hB : Below w.heap.size w W) => same_any a[k].A b[k].A a[k].zs b[k].zs a[k].cap b[k].cap W (f1 _ (List.getElem_mem hka)) (f2 _ (List.getElem_mem hkb)) ((hh1.below hB).more hB.size) ((hh2.below hB).more hB.size))
        have HBW : Hid (∀ m, Below w.heap.size w (wr.drewN m)) := Lib.hid (fun m => by rw [HWR.out, World.drewN_drewN]; exact below_draws (Below.refl _ _) _)
        obtain ⟨A5, c5, x, hx⟩ : ∃ A5 c5 x, a[k] = ⟨A5, c5, x⟩ := ⟨_, _, _, rfl⟩
        obtain ⟨A6, c6, y, hy⟩ : ∃ A6 c6 y, b[k] = ⟨A6, c6, y⟩ := ⟨_, _, _, rfl⟩
        rw [hx] at q1 HN1 HEQ GS
        rw [hy] at q2 HN2 HEQ GS
        simp only at q1 q2 HN1 HN2 HEQ GS
        clear hc1 hc2 hcw hka hkb h1 h2 hh1 hh2 hx hy f1 f2
        by_cases hxy : x = y
        · have HXY := Lib.hid hxy
          have GT : Hid (∀ m, Calls Try.prog 13 #[.slice A5 x.length c5, .slice A6 y.length c6] (wr.drewN m) fun e w' => e = .returned (.bool true) ∧ ∃ n, w' = (wr.drewN m).drewN n) := Lib.hid (fun m => by
            have := GS.out _ (HBW.out m)
            rwa [decide_eq_true hxy] at this)
          clear hxy GS
          go_wp2_with fail
          go_quiet ((go_at_call 13; exact Calls.quiet_of (GT.out _)))
          go_wp2_with fail
          go_roundw
          case rel => exact ⟨k + 1, d + nq, by omega, by go_num, by rw [HN1.out, HN2.out, HS.out, HXY.out], by rw [HWR.out, World.drewN_drewN]⟩
          case measure => simp [intOf]; omega
        · have GT : Hid (∀ m, Calls Try.prog 13 #[.slice A5 x.length c5, .slice A6 y.length c6] (wr.drewN m) fun e w' => e = .returned (.bool false) ∧ ∃ n, w' = (wr.drewN m).drewN n) := Lib.hid (fun m => by
            have := GS.out _ (HBW.out m)
            rwa [decide_eq_false hxy] at this)
          obtain rfl : bv = false := by rw [← HBV.out]; exact decide_eq_false (fun h => hxy (HEQ.out h))
          clear hxy GS
          go_wp2_with fail
          go_quiet ((go_at_call 13; exact Calls.quiet_of (GT.out _)))
          go_wp2_with fail
          go_ret
          exact ⟨rfl, d + nq, by rw [HWR.out, World.drewN_drewN]⟩
      · have d0 : decide (k < n) = false := decide_eq_false hlt
        obtain rfl : bv = true := by
          rw [← HBV.out]
          refine decide_eq_true ?_
          have h := HS.out
          rwa [List.take_of_length_le (by rw [HA.out]; omega), List.take_of_length_le (by rw [HB.out]; omega)] at h
        clear hcw
        go_wp2_with fail
        go_ret
        exact ⟨rfl, d, HWR.out⟩

def greatI (rs : List Ri) : Bool := decide (40 < rs.length) || rs.any fun r => decide (60 < r.zs.length)
theorem greatI_no {rs : List Ri} (h : greatI rs = false) : rs.length ≤ 40 ∧ ∀ r ∈ rs, r.zs.length ≤ 60 := by
  unfold greatI at h
  rw [Bool.or_eq_false_iff] at h
  refine ⟨by have := of_decide_eq_false h.1; omega, fun s hs => ?_⟩
  have := List.any_eq_false.1 h.2 s hs
  simp at this
  omega
set_option maxHeartbeats 3200000 in
theorem great_any (A : Option Addr) (rs : List Ri) (c : Nat) (w : World) (_ : rs.length ≤ c) (_ : c ≤ maxLen) (hr : HoldsI w w.heap.size A rs) :
    Calls Try.prog 20 #[.slice A rs.length c] w fun e w' => e = .returned (.bool (greatI rs)) ∧ w = w' := by
  obtain ⟨bv, hbv⟩ : ∃ bv, greatI rs = bv := ⟨_, rfl⟩
  rw [hbv]
  have HBV := Lib.hid hbv
  clear hbv
  by_cases h40 : 40 < rs.length
  · obtain rfl : bv = true := by rw [← HBV.out]; unfold greatI; rw [decide_eq_true h40]; rfl
    have d0 : decide ((40 : Int) < (rs.length : Int)) = true := decide_eq_true (by omega)
    clear hr
    go_enter Try.func20, Try.ntmps20
    go_wp2_with fail
    go_ret
    exact ⟨rfl, rfl⟩
  · have d0 : decide ((40 : Int) < (rs.length : Int)) = false := decide_eq_false (by omega)
    go_enter Try.func20, Try.ntmps20
    go_wp2_with fail
    go_loop [9] (fun v => ∃ k : Nat, k ≤ rs.length ∧ v = .int .i64 k ∧ ((rs.take k).any fun r => decide (60 < r.zs.length)) = false) (fun v => rs.length - (intOf v).toNat)
    case atStart => exact ⟨0, Nat.zero_le _, rfl, by simp⟩
    case round =>
      obtain ⟨k, hk, rfl, hn⟩ := hrel
      have HN := Lib.hid hn
      clear hn
      by_cases hlt : k < rs.length
      · have d1 : decide (k < rs.length) = true := decide_eq_true hlt
        obtain ⟨b, off, rfl, -, hc1, -, -, -, -⟩ := riAt hr hlt
        have i1 : (k : Int) < (rs.length : Int) := by omega
        have HNX : Hid (((rs.take (k + 1)).any fun r => decide (60 < r.zs.length)) = decide (60 < rs[k].zs.length)) := Lib.hid (by rw [List.take_succ_eq_append_getElem hlt, List.any_append, HN.out]; simp)
        have HMM : Hid (60 < rs[k].zs.length → greatI rs = true) := Lib.hid (fun h => by
          unfold greatI
          rw [List.any_eq_true.2 ⟨_, List.getElem_mem hlt, decide_eq_true h⟩, Bool.or_true])
        generalize rs[k] = r at *
        cases h60 : decide ((60 : Int) < (r.zs.length : Int)) with
        | true =>
          obtain rfl : bv = true := by rw [← HBV.out]; exact HMM.out (by have := of_decide_eq_true h60; omega)
          go_wp2_with fail
          go_ret
          exact ⟨rfl, rfl⟩
        | false =>
          go_wp2_with fail
          go_round
          case rel => exact ⟨k + 1, by omega, by go_num, by rw [HNX.out]; exact decide_eq_false (by have := of_decide_eq_false h60; omega)⟩
          case measure => simp [intOf]; omega
      · have d1 : decide (k < rs.length) = false := decide_eq_false hlt
        obtain rfl : bv = false := by
          rw [← HBV.out]
          have h := HN.out
          rw [List.take_of_length_le (by omega)] at h
          unfold greatI
          rw [h, decide_eq_false h40]
          rfl
        go_wp2_with fail
        go_ret
        exact ⟨rfl, rfl⟩
end Go.Proofs.Ytojmcjkeniepcaa.Gr
