/-
  Layer 19: the document's word on whether an order is right: contracts. Conditions: as each theorem names.
-/
import Derived.Test.YtojmcjkeniepcaaMOrB
import Derived.BigQuiet
import Derived.Lib.QuietBelow
import Derived.Deep.QuietTactic
namespace Go.Proofs.Ytojmcjkeniepcaa.Ord
open Go.ChangeShapes Go.WideShapes Go.ChangeAt Go.RowKit Go.Proofs.Ytojmcjkeniepcaa.Kit Go.Proofs.Ytojmcjkeniepcaa.Gr Go.Proofs.Ytojmcjkeniepcaa.Ordr

set_option maxHeartbeats 1600000 in
theorem rhas_any (A : Option Addr) (l : List Int) (c : Nat) (x : Int) (w : World) (hl : l.length ≤ 1000000) (hr : Holds w w.heap.size .i64 A l) :
    Calls Try.prog 38 #[.slice A l.length c, .int .i64 x] w fun e w' => e = .returned (.bool (decide (x ∈ l))) ∧ w = w' := by
  obtain ⟨bv, hbv⟩ : ∃ bv, decide (x ∈ l) = bv := ⟨_, rfl⟩
  rw [hbv]
  have HBV := Lib.hid hbv
  clear hbv
  go_enter Try.func38, Try.ntmps38
  go_wp2_with fail
  go_loop [8] (fun v => ∃ k : Nat, k ≤ l.length ∧ v = .int .i64 k ∧ x ∉ l.take k) (fun v => l.length - (intOf v).toNat)
  case atStart => exact ⟨0, Nat.zero_le _, rfl, by simp⟩
  case round =>
    obtain ⟨k, hk, rfl, hn⟩ := hrel
    by_cases hlt : k < l.length
    · have d0 : decide (k < l.length) = true := decide_eq_true hlt
      obtain ⟨b, off, rfl, -, hc⟩ := hr (by omega)
      have c1 := hc k hlt
      have hm := getD_mem hlt
      have hnx := take_all_next hlt
      generalize l.getD k 0 = z at *
      have i1 : (k : Int) < (l.length : Int) := by omega
      have HNX := Lib.hid hnx
      have HN := Lib.hid hn
      have HM := Lib.hid hm
      clear hc hnx hn hm
      by_cases hz : z = x
      · subst hz
        have e1 : (z == z) = true := by simp
        obtain rfl : bv = true := by rw [← HBV.out]; exact decide_eq_true HM.out
        go_wp2_with fail
        go_ret
        exact ⟨rfl, rfl⟩
      · have e1 : (z == x) = false := by simpa using hz
        go_wp2_with fail
        go_round
        case rel => exact ⟨k + 1, by omega, by go_num, by rw [HNX.out]; simp; exact ⟨HN.out, fun h => hz h.symm⟩⟩
        case measure => simp [intOf]; omega
    · have d0 : decide (k < l.length) = false := decide_eq_false hlt
      rw [List.take_of_length_le (by omega)] at hn
      obtain rfl : bv = false := by rw [← HBV.out]; exact decide_eq_false hn
      clear hn
      go_wp2_with fail
      go_ret
      exact ⟨rfl, rfl⟩

theorem below_drewN {B : Nat} {w w' : World} (h : Below B w w') (n : Nat) : Below B w (w'.drewN n) := ⟨h.os, h.tape, h.output, h.size, h.block⟩
set_option maxRecDepth 100000 in
set_option maxHeartbeats 6400000 in
theorem rright_any (A : Option Addr) (rs : List Ri) (c : Nat) (Ao : Option Addr) (o : List Int) (co : Nat) (Ab : Option Addr) (b : List Int) (cb : Nat) (w : World) (hf : Few rs) (hn : rs.length ≤ 4096) (hol : o.length ≤ 5000) (hbl : b.length ≤ 5000)
    (hr : HoldsI w w.heap.size A rs) (hro : Holds w w.heap.size .i64 Ao o) (hrb : Holds w w.heap.size .i64 Ab b) :
    Calls Try.prog 26 #[.slice A rs.length c, .slice Ao o.length co, .slice Ab b.length cb] w fun e w' => e = .returned (.bool (rightR (rowsL rs) o b)) ∧ Below w.heap.size w w' := by
  obtain ⟨D, hD⟩ : ∃ D, rightR (rowsL rs) o b = D := ⟨_, rfl⟩
  have HD := Lib.hid hD
  rw [hD]
  clear hD
  unfold rightR at HD
  have GR := right_any A rs c w hf hr
  have hLn : (rowsL rs).length = rs.length := rowsL_length rs
  have HRG := Lib.hid (fun (i : Nat) (h : i < rs.length) => rowsL_getD h)
  have HRH := Lib.hid (fun W (h : Below w.heap.size w W) => hr.below h)
  have HOH := Lib.hid (fun W (h : Below w.heap.size w W) => (hro.below h).more h.size)
  have HBH := Lib.hid (fun W (h : Below w.heap.size w W) => (hrb.below h).more h.size)
  have HFW := Lib.hid hf
  generalize rowsL rs = L at *
  by_cases hR : RightL L
  · rw [if_pos hR] at HD
    rw [decide_eq_true hR] at GR
    have GRH := Lib.hid GR
    by_cases hq : o.length = L.length
    · rw [if_pos hq] at HD
      have HT := Lib.hid (right_two (b := b) hR hq)
      have hon : o.length = rs.length := by omega
      have HQ := Lib.hid hon
      have e1 : ((o.length : Int) != (rs.length : Int)) = false := by rw [hon]; simp
      have e2 : ((o.length : Int) == (rs.length : Int)) = true := by rw [beq_iff_eq, hon]
      have HLN := Lib.hid hLn
      have HAS := Lib.hid (fun (A : Option Addr) (l : List Int) (c : Nat) (x : Int) (W : World) (h : l.length ≤ 1000000) (h2 : Holds W W.heap.size .i64 A l) => rhas_any A l c x W h h2)
      clear hR hq hLn GR hr hro hrb hon hf
      go_enter Try.func26, Try.ntmps26
      go_wp2_with (go_at_call 21; refine GRH.out.mono ?_; rintro e w1 ⟨rfl, n1, rfl⟩)
      have B1 := below_drewN (Below.refl w.heap.size w) n1
      go_loopw [22] (fun s wr => ∃ k : Nat, k ≤ rs.length ∧ s = .int .i64 k ∧ (∀ j : Nat, j < k → (j : Int) ∈ o) ∧ Below w.heap.size w wr) (fun s _ => rs.length - (intOf s).toNat)
      case atStart => exact ⟨0, Nat.zero_le _, rfl, fun j hj => absurd hj (by omega), B1⟩
      case round =>
        clear B1
        obtain ⟨k, hk, rfl, hall, B2⟩ := hrel
        have HA := Lib.hid hall
        clear hall
        by_cases hlt : k < rs.length
        · have d1 : decide ((k : Int) < (rs.length : Int)) = true := decide_eq_true (by omega)
          have d2 : decide (k < rs.length) = true := decide_eq_true hlt
          have G := HAS.out Ao o co (k : Int) wr (by omega) (HOH.out _ B2)
          by_cases hm : (k : Int) ∈ o
          · rw [decide_eq_true hm] at G
            have GH := Lib.hid G
            have HM := Lib.hid hm
            clear G hm
            go_wp2_with (go_at_call 38; refine GH.out.mono ?_; rintro e w2 ⟨rfl, rfl⟩)
            go_roundw
            case rel => exact ⟨k + 1, hlt, by go_num, fun j hj => by
              by_cases e : j = k
              · subst e; exact HM.out
              · exact HA.out j (by omega), B2⟩
            case measure => simp [intOf] <;> omega
          · rw [decide_eq_false hm] at G
            have GH := Lib.hid G
            obtain rfl : D = false := by
              rw [← HD.out, Bool.eq_false_iff]
              intro h
              exact hm ((HT.out.1 h).1 k (by rw [HLN.out]; exact hlt))
            clear G hm
            go_wp2_with (go_at_call 38; refine GH.out.mono ?_; rintro e w2 ⟨rfl, rfl⟩)
            go_ret
            exact ⟨rfl, B2⟩
        · obtain rfl : k = rs.length := by omega
          have d1 : decide ((rs.length : Int) < (rs.length : Int)) = false := decide_eq_false (by omega)
          have d2 : decide (rs.length < rs.length) = false := decide_eq_false (by omega)
          have HOK : Hid (OrderOk o rs.length) := Lib.hid (order_all _ _ HQ.out HA.out)
          have HOM : Hid (∀ i, i < o.length → ∃ r : Nat, o.getD i 0 = (r : Int) ∧ r < rs.length) := Lib.hid (fun i hi => by
            have := HOK.out.2.1 (o.getD i 0) (by rw [getD_at hi]; exact List.getElem_mem hi)
            exact ⟨(o.getD i 0).toNat, by omega, by omega⟩)
          obtain ⟨wo, hwo⟩ : ∃ wo : World, wo = wr := ⟨_, rfl⟩
          subst hwo
          go_wp2_with fail
          go_loopw [32] (fun s wr => ∃ i : Nat, i ≤ o.length ∧ s = .int .i64 i ∧ (∀ i' m : Nat, i' < i → m < o.length → PairOk L o b i' m) ∧ Below w.heap.size w wr) (fun s _ => o.length - (intOf s).toNat)
          case atStart => exact ⟨0, Nat.zero_le _, rfl, fun i' m h => absurd h (by omega), B2⟩
          case round =>
            clear B2
            obtain ⟨i, hi, rfl, hpi, B3⟩ := hrel
            have HPI := Lib.hid hpi
            clear hpi
            by_cases hio : i < o.length
            · have d3 : decide ((i : Int) < (o.length : Int)) = true := decide_eq_true (by omega)
              have d4 : decide (i < o.length) = true := decide_eq_true hio
              obtain ⟨wq, hwq⟩ : ∃ wq : World, wq = wr := ⟨_, rfl⟩
              subst hwq
              go_wp2_with fail
              go_loopw [37] (fun s wr => ∃ m : Nat, m ≤ o.length ∧ s = .int .i64 m ∧ (∀ m' : Nat, m' < m → PairOk L o b i m') ∧ Below w.heap.size w wr) (fun s _ => o.length - (intOf s).toNat)
              case atStart => exact ⟨0, Nat.zero_le _, rfl, fun m h => absurd h (by omega), B3⟩
              case round =>
                clear B3
                obtain ⟨m, hm, rfl, hpm, B4⟩ := hrel
                have HPM := Lib.hid hpm
                clear hpm
                by_cases hmo : m < o.length
                · have d5 : decide ((m : Int) < (o.length : Int)) = true := decide_eq_true (by omega)
                  have d6 : decide (m < o.length) = true := decide_eq_true hmo
                  have NEXT : Hid (PairOk L o b i m → ∀ m' : Nat, m' < m + 1 → PairOk L o b i m') := Lib.hid (fun h m' hm' => by
                    by_cases e : m' = m
                    · subst e; exact h
                    · exact HPM.out m' (by omega))
                  by_cases him : i < m
                  · have d7 : decide ((i : Int) < (m : Int)) = true := decide_eq_true (by omega)
                    have d8 : decide (i < m) = true := decide_eq_true him
                    obtain ⟨b0, off, hAe, -, hcs⟩ := (HOH.out _ B4) (by omega)
                    subst hAe
                    have hci := hcs i hio
                    have hcm := hcs m hmo
                    obtain ⟨ri, hri, hri2⟩ := HOM.out i hio
                    obtain ⟨rm, hrm, hrm2⟩ := HOM.out m hmo
                    obtain ⟨b1, off1, hA1, -, hc1, -, -, -, hrz⟩ := riAt (HRH.out _ B4) hrm2
                    subst hA1
                    have HZ := Lib.hid (HRG.out rm hrm2)
                    have hfw := HFW.out rs[rm] (List.getElem_mem hrm2)
                    have HP : Hid (PairOk L o b i m ↔ ((ri : Int) ∈ rs[rm].zs → (rm : Int) ∈ b)) := Lib.hid (by
                      unfold PairOk
                      rw [hri, hrm, Int.toNat_natCast, HZ.out]
                      exact ⟨fun h => h him, fun h _ => h⟩)
                    rw [hri] at hci
                    rw [hrm] at hcm
                    generalize rs[rm] = q at *
                    obtain ⟨Aq, cq, zs⟩ := q
                    simp only at hc1 hrz hfw HP
                    have hbs := B4.size
                    have G1 := Lib.hid (fun n => HAS.out Aq zs cq (ri : Int) (wr.drewN n) hfw (hrz.more (show w.heap.size ≤ (wr.drewN n).heap.size from hbs)))
                    have G2 := Lib.hid (fun n => HAS.out Ab b cb (rm : Int) (wr.drewN n) (by omega) (HBH.out _ (below_drewN B4 n)))
                    clear hcs hri hrm hrz hfw
                    have G1 := G1.out
                    have G2 := G2.out
                    by_cases hz : (ri : Int) ∈ zs
                    · simp only [decide_eq_true hz] at G1
                      have GH1 := Lib.hid G1
                      by_cases hb : (rm : Int) ∈ b
                      · simp only [decide_eq_true hb] at G2
                        have GH2 := Lib.hid G2
                        have HN := Lib.hid (NEXT.out (HP.out.2 fun _ => hb))
                        clear G1 G2 hz hb
                        go_wp2_with fail
                        go_quiet (first
                        | (go_at_call 38; with_reducible exact Calls.quiet_of_same ((GH1.out _).mono fun _ _ h => ⟨h.1, h.2.symm⟩))
                        | (go_at_call 38; with_reducible exact Calls.quiet_of_same ((GH2.out _).mono fun _ _ h => ⟨h.1, h.2.symm⟩)))
                        go_wp2_with fail
                        go_roundw
                        case rel => exact ⟨m + 1, hmo, by go_num, HN.out, below_drewN B4 _⟩
                        case measure => simp [intOf] <;> omega
                      · simp only [decide_eq_false hb] at G2
                        have GH2 := Lib.hid G2
                        obtain rfl : D = false := by
                          rw [← HD.out, Bool.eq_false_iff]
                          intro h
                          exact hb (HP.out.1 ((HT.out.1 h).2 i m hio hmo) hz)
                        clear G1 G2 hz hb
                        go_wp2_with fail
                        go_quiet (first
                        | (go_at_call 38; with_reducible exact Calls.quiet_of_same ((GH1.out _).mono fun _ _ h => ⟨h.1, h.2.symm⟩))
                        | (go_at_call 38; with_reducible exact Calls.quiet_of_same ((GH2.out _).mono fun _ _ h => ⟨h.1, h.2.symm⟩)))
                        go_wp2_with fail
                        go_ret
                        exact ⟨rfl, below_drewN B4 _⟩
                    · simp only [decide_eq_false hz] at G1
                      have GH1 := Lib.hid G1
                      have HN := Lib.hid (NEXT.out (HP.out.2 fun h => absurd h hz))
                      have GH2 := Lib.hid G2
                      clear G1 G2 hz
                      go_wp2_with fail
                      go_quiet (first
                        | (go_at_call 38; with_reducible exact Calls.quiet_of_same ((GH1.out _).mono fun _ _ h => ⟨h.1, h.2.symm⟩))
                        | (go_at_call 38; with_reducible exact Calls.quiet_of_same ((GH2.out _).mono fun _ _ h => ⟨h.1, h.2.symm⟩)))
                      go_wp2_with fail
                      go_roundw
                      case rel => exact ⟨m + 1, hmo, by go_num, HN.out, below_drewN B4 _⟩
                      case measure => simp [intOf] <;> omega
                  · have d7 : decide ((i : Int) < (m : Int)) = false := decide_eq_false (by omega)
                    have d8 : decide (i < m) = false := decide_eq_false him
                    have HN := Lib.hid (NEXT.out (fun h => absurd h him))
                    go_wp2_with fail
                    go_quiet (fail)
                    go_wp2_with fail
                    go_roundw
                    case rel => exact ⟨m + 1, hmo, by go_num, HN.out, below_drewN B4 _⟩
                    case measure => simp [intOf] <;> omega
                · obtain rfl : m = o.length := by omega
                  have d5 : decide ((o.length : Int) < (o.length : Int)) = false := decide_eq_false (by omega)
                  have d6 : decide (o.length < o.length) = false := decide_eq_false (by omega)
                  have HN : Hid (∀ i' m : Nat, i' < i + 1 → m < o.length → PairOk L o b i' m) := Lib.hid (fun i' m h1 h2 => by
                    by_cases e : i' = i
                    · subst e; exact HPM.out m h2
                    · exact HPI.out i' m (by omega) h2)
                  go_wp2_with fail
                  go_roundw
                  case rel => exact ⟨i + 1, hio, by go_num, HN.out, B4⟩
                  case measure => simp [intOf] <;> omega
            · obtain rfl : i = o.length := by omega
              have d3 : decide ((o.length : Int) < (o.length : Int)) = false := decide_eq_false (by omega)
              have d4 : decide (o.length < o.length) = false := decide_eq_false (by omega)
              obtain rfl : D = true := by
                rw [← HD.out]
                exact HT.out.2 ⟨fun k hk => HA.out k (by rw [← HLN.out]; exact hk), HPI.out⟩
              go_wp2_with fail
              go_ret
              exact ⟨rfl, B3⟩
    · rw [if_neg hq] at HD
      obtain rfl : D = false := HD.out.symm
      have e1 : ((o.length : Int) != (rs.length : Int)) = true := by rw [bne_iff_ne]; omega
      have e2 : ((o.length : Int) == (rs.length : Int)) = false := by rw [beq_eq_false_iff_ne]; omega
      clear hR hq GR hr hro hrb
      go_enter Try.func26, Try.ntmps26
      go_wp2_with (go_at_call 21; refine GRH.out.mono ?_; rintro e w1 ⟨rfl, n1, rfl⟩)
      go_ret
      exact ⟨rfl, below_drewN (Below.refl _ _) _⟩
  · rw [if_neg hR] at HD
    obtain rfl : D = false := HD.out.symm
    rw [decide_eq_false hR] at GR
    have GRH := Lib.hid GR
    clear hR GR hr hro hrb
    go_enter Try.func26, Try.ntmps26
    go_wp2_with (go_at_call 21; refine GRH.out.mono ?_; rintro e w1 ⟨rfl, n1, rfl⟩)
    go_ret
    exact ⟨rfl, below_drewN (Below.refl _ _) _⟩
end Go.Proofs.Ytojmcjkeniepcaa.Ord
