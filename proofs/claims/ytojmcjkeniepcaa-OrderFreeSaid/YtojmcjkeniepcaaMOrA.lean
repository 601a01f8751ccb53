/-
  Layer 19, order.Right: contract. Conditions: as each theorem names.
-/
import Derived.Test.YtojmcjkeniepcaaMGrF
import Derived.Deep.OwnRows
import Derived.Deep.MidRow
import Derived.LoopTactic
namespace Go.Proofs.Ytojmcjkeniepcaa.Ord
open Go.ChangeShapes Go.WideShapes Go.ChangeAt Go.RowKit Go.Proofs.Ytojmcjkeniepcaa.Kit Go.Proofs.Ytojmcjkeniepcaa.Gr

/-- What is there by now. -/
def thereF (l : List Int) (i : Nat) : Value := .bool (decide ((i : Int) ∈ l))
theorem there_put {w : World} {g n : Nat} {l : List Int} (h : w.rowIs g 4 n (thereF l)) (k : Nat) : (w.setCell ⟨g, k, none⟩ (.bool true)).rowIs g 4 n (thereF (l ++ [(k : Int)])) := by
  refine (h.set k (.bool true)).congr fun i hi => ?_
  unfold thereF
  by_cases hik : i = k
  · subst hik; simp
  · rw [if_neg hik]
    congr 1
    rw [decide_eq_decide]
    simp only [List.mem_append, List.mem_singleton]
    constructor
    · exact .inl
    · rintro (h | h)
      · exact h
      · omega
theorem there_far {w : World} {g n : Nat} {l : List Int} (h : w.rowIs g 4 n (thereF l)) {x : Int} (hx : x < 0 ∨ (n : Int) ≤ x) : w.rowIs g 4 n (thereF (l ++ [x])) := by
  refine h.congr fun i hi => ?_
  unfold thereF
  congr 1
  rw [decide_eq_decide]
  simp only [List.mem_append, List.mem_singleton]
  constructor
  · exact .inl
  · rintro (h | h)
    · exact h
    · omega
theorem take_nextI (xs : List Int) (j : Nat) (h : j < xs.length) : xs.take (j + 1) = xs.take j ++ [xs.getD j 0] := by
  rw [List.take_succ_eq_append_getElem h]
  simp [List.getD, List.getElem?_eq_getElem h]

/-- Whether a block may be written behind those that are. -/
def StepOk (L : List (List Int)) (b l : List Int) (x : Int) : Prop := 0 ≤ x ∧ x < L.length ∧ x ∉ l ∧ ∀ r ∈ turnTo L x.toNat L.length, r ∈ l ∨ r ∈ b
instance (L : List (List Int)) (b l : List Int) (x : Int) : Decidable (StepOk L b l x) := by unfold StepOk; infer_instance
def goR (L : List (List Int)) (b : List Int) : List Int → List Int → Bool
  | _, [] => true
  | l, x :: r => decide (StepOk L b l x) && goR L b (l ++ [x]) r
theorem goR_step (L : List (List Int)) (b xs : List Int) {k : Nat} (h : k < xs.length) : goR L b (xs.take k) (xs.drop k) = (decide (StepOk L b (xs.take k) (xs.getD k 0)) && goR L b (xs.take (k + 1)) (xs.drop (k + 1))) := by
  have e : xs.getD k 0 = xs[k] := by simp [List.getD, List.getElem?_eq_getElem h]
  rw [take_nextI xs k h, List.drop_eq_getElem_cons h, e]
  rfl
theorem goR_end (L : List (List Int)) (b xs l : List Int) : goR L b l (xs.drop xs.length) = true := by
  rw [List.drop_length]; rfl
/-- Whether an order is right. -/
def rightR (L : List (List Int)) (o b : List Int) : Bool := if RightL L then (if o.length = L.length then goR L b [] o else false) else false

set_option maxRecDepth 100000 in
set_option maxHeartbeats 6400000 in
theorem oright_any (A : Option Addr) (rs : List Ri) (c : Nat) (Ao : Option Addr) (o : List Int) (co : Nat) (Ab : Option Addr) (b : List Int) (cb : Nat) (w : World) (hn : rs.length ≤ 4096) (hol : o.length ≤ 5000) (hbl : b.length ≤ 5000)
    (hr : HoldsI w w.heap.size A rs) (hro : Holds w w.heap.size .i64 Ao o) (hrb : Holds w w.heap.size .i64 Ab b) :
    Calls Try.prog 25 #[.slice A rs.length c, .slice Ao o.length co, .slice Ab b.length cb] w fun e w' => e = .returned (.bool (rightR (rowsL rs) o b)) ∧ Below w.heap.size w w' := by
  obtain ⟨D, hD⟩ : ∃ D, rightR (rowsL rs) o b = D := ⟨_, rfl⟩
  have HD := Lib.hid hD
  rw [hD]
  clear hD
  unfold rightR at HD
  have GT := gturned_any A rs c w hr
  unfold GTurned at GT
  have hLn : (rowsL rs).length = rs.length := rowsL_length rs
  generalize rowsL rs = L at *
  by_cases hR : RightL L
  · simp only [if_pos hR] at GT
    rw [if_pos hR] at HD
    by_cases hq : o.length = L.length
    · rw [if_pos hq] at HD
      obtain ⟨n, hnn⟩ : ∃ n, rs.length = n := ⟨_, rfl⟩
      rw [hnn] at hn hLn GT ⊢
      have hon : o.length = n := by omega
      have HQ : Hid (o.length = n) := Lib.hid hon
      have e1 : ((o.length : Int) != (n : Int)) = false := by rw [hon]; simp
      have e2 : ((o.length : Int) == (n : Int)) = true := by rw [beq_iff_eq, hon]
      have e3 : ((n : Int) != (n : Int)) = false := by simp
      have HLN := Lib.hid hLn
      have GTH := Lib.hid GT
      have hmk : ∀ W, (Instr.makeSlice 68 (.int .i64 (n : Int)) (.int .i64 (n : Int))).run Try.prog W = .ok (.slice (some ⟨W.heap.size, 0, none⟩) n n) (W.alloc (.cells (madeCells #[.bool false] n) 4)) := fun W =>
        run_make_row' (P := Try.prog) 68 4 (.bool false) 1 Try.underlying68 (by kernel_rfl) rfl .i64 .i64 n (by omega) (by omega) W
      have HMK : Hid (∀ W : World, (W.alloc (.cells (madeCells #[.bool false] n) 4)).rowIs W.heap.size 4 n (thereF [])) := Lib.hid fun W =>
        (World.rowIs_made W (.bool false) n 4).congr fun i _ => by unfold thereF; simp
      have HRB := Lib.hid (fun W (h : Below w.heap.size w W) => hrb.below h)
      have HRO := Lib.hid (fun W (h : Below w.heap.size w W) => hro.below h)
      have HTB := Lib.hid (fun (k : Nat) (h : k < b.length) => take_nextI b k h)
      have HTO := Lib.hid (fun (k : Nat) (h : k < o.length) => take_nextI o k h)
      have HEB : Hid (b.take b.length = b) := Lib.hid List.take_length
      have HST := Lib.hid (fun (k : Nat) (h : k < o.length) => goR_step L b o h)
      have HEN := Lib.hid (goR_end L b o)
      clear hR hq hLn GT hr hro hrb hon hnn
      go_enter Try.func25, Try.ntmps25
      go_wp2_with (go_at_call 18; refine GTH.out.mono ?_; rintro e w1 ⟨A1, c1, qs, rfl, k1, k2, k3, k4, hb1⟩)
      have hs1 := hb1.size
      have F0 := HMK.out w1
      have B1 := hb1.alloc hs1 (.cells (madeCells #[.bool false] n) 4)
      have C1 := (Below.refl w1.heap.size w1).alloc (Nat.le_refl _) (.cells (madeCells #[.bool false] n) 4)
      go_loopw [36] (fun s wr => ∃ k : Nat, k ≤ b.length ∧ s = .int .i64 k ∧ wr.rowIs w1.heap.size 4 n (thereF (b.take k)) ∧ Below w.heap.size w wr ∧ Below w1.heap.size w1 wr) (fun s _ => b.length - (intOf s).toNat)
      case atStart => exact ⟨0, Nat.zero_le _, rfl, F0, B1, C1⟩
      case round =>
        clear F0 B1 C1
        obtain ⟨k, hk, rfl, F1, B1, C1⟩ := hrel
        by_cases hlt : k < b.length
        · obtain ⟨b0, off, rfl, -, hcs⟩ := (HRB.out _ B1) (by omega)
          have hck := hcs k hlt
          have HN := Lib.hid (HTB.out k hlt)
          have d1 : decide ((k : Int) < (b.length : Int)) = true := decide_eq_true (by omega)
          have d2 : decide (k < b.length) = true := decide_eq_true hlt
          generalize b.getD k 0 = x at *
          clear hcs
          by_cases h0 : 0 ≤ x
          · have e4 : decide (0 ≤ x) = true := decide_eq_true h0
            by_cases h1 : x < n
            · obtain ⟨j, rfl⟩ : ∃ j : Nat, x = (j : Int) := ⟨x.toNat, by omega⟩
              have e5 : decide ((j : Int) < (n : Int)) = true := decide_eq_true (by omega)
              have e6 : decide (j < n) = true := decide_eq_true (by omega)
              have hjn : j < n := by omega
              have f1 := F1.cell hjn
              have f2 := F1.frozen j
              have F2 := there_put F1 j
              rw [← HN.out] at F2
              have FH := Lib.hid F2
              have B2 := B1.setCell (p := ⟨w1.heap.size, j, none⟩) hs1 (.bool true)
              have C2 := C1.setCell (p := ⟨w1.heap.size, j, none⟩) (Nat.le_refl _) (.bool true)
              clear F1 F2
              go_wp2_with fail
              go_roundw
              case rel => exact ⟨k + 1, hlt, by go_num, FH.out, B2, C2⟩
              case measure => simp [intOf] <;> omega
            · have e5 : decide (x < (n : Int)) = false := decide_eq_false h1
              have F2 := there_far F1 (x := x) (.inr (by omega))
              rw [← HN.out] at F2
              have FH := Lib.hid F2
              clear F1 F2
              go_wp2_with fail
              go_roundw
              case rel => exact ⟨k + 1, hlt, by go_num, FH.out, B1, C1⟩
              case measure => simp [intOf] <;> omega
          · have e4 : decide (0 ≤ x) = false := decide_eq_false h0
            have F2 := there_far F1 (x := x) (.inl (by omega))
            rw [← HN.out] at F2
            have FH := Lib.hid F2
            clear F1 F2
            go_wp2_with fail
            go_roundw
            case rel => exact ⟨k + 1, hlt, by go_num, FH.out, B1, C1⟩
            case measure => simp [intOf] <;> omega
        · obtain rfl : k = b.length := by omega
          have d1 : decide ((b.length : Int) < (b.length : Int)) = false := decide_eq_false (by omega)
          have d2 : decide (b.length < b.length) = false := decide_eq_false (by omega)
          rw [HEB.out] at F1
          have F2 := F1.alloc (.cells (madeCells #[.bool false] n) 4)
          have W2 := HMK.out wr
          have B2 := B1.alloc B1.size (.cells (madeCells #[.bool false] n) 4)
          have C2 := C1.alloc C1.size (.cells (madeCells #[.bool false] n) 4)
          have hgW : w1.heap.size < wr.heap.size := F1.lt
          obtain ⟨wo, hwo⟩ : ∃ wo : World, wo = wr := ⟨_, rfl⟩
          subst hwo
          clear F1
          go_wp2_with fail
          have HQL : Hid (qs.length = n) := Lib.hid (by have := congrArg List.length k3; rw [rowsL_length] at this; rw [this]; unfold turnedL; rw [List.length_map, List.length_range]; exact HLN.out)
          have HQZ : Hid (∀ (j : Nat) (hj : j < qs.length), qs[j].zs = turnTo L j n) := Lib.hid (fun j hj => by
            rw [← rowsL_getD hj, k3]
            have : j < L.length := by rw [HLN.out, ← HQL.out]; exact hj
            unfold turnedL
            rw [List.getD, List.getElem?_map, List.getElem?_range this, HLN.out]
            rfl)
          have HKT := Lib.hid (fun W (h : Below w1.heap.size w1 W) => k4.below h)
          clear k3 k4
          go_loopw [57] (fun s wr => ∃ k : Nat, k ≤ o.length ∧ s = .int .i64 k ∧ goR L b (o.take k) (o.drop k) = D ∧ wr.rowIs w1.heap.size 4 n (thereF b) ∧ wr.rowIs wo.heap.size 4 n (thereF (o.take k)) ∧ Below w.heap.size w wr ∧ Below w1.heap.size w1 wr) (fun s _ => o.length - (intOf s).toNat)
          case atStart => exact ⟨0, Nat.zero_le _, rfl, HD.out, F2, W2, B2, C2⟩
          case round =>
            clear F2 W2 B2 C2 B1 C1
            obtain ⟨k, hk, rfl, hg, F3, W3, B3, C3⟩ := hrel
            have HG := Lib.hid hg
            clear hg
            by_cases hlt : k < o.length
            · obtain ⟨b0, off, rfl, -, hcs⟩ := (HRO.out _ B3) (by omega)
              have hck := hcs k hlt
              have HN := Lib.hid (HTO.out k hlt)
              have HS := Lib.hid (HST.out k hlt)
              have d3 : decide ((k : Int) < (o.length : Int)) = true := decide_eq_true (by omega)
              have d4 : decide (k < o.length) = true := decide_eq_true hlt
              generalize o.getD k 0 = x at *
              have HBAD : Hid (¬ StepOk L b (o.take k) x → D = false) := Lib.hid (fun h => by rw [← HG.out, HS.out, decide_eq_false h]; rfl)
              have HGOOD : Hid (StepOk L b (o.take k) x → goR L b (o.take (k + 1)) (o.drop (k + 1)) = D) := Lib.hid (fun h => by rw [← HG.out, HS.out, decide_eq_true h]; rfl)
              clear hcs
              by_cases h0 : x < 0
              · have e4 : decide (x < 0) = true := decide_eq_true h0
                obtain rfl : D = false := HBAD.out fun h => by have := h.1; omega
                clear F3 W3
                go_wp2_with fail
                go_ret
                exact ⟨rfl, B3⟩
              obtain ⟨j, rfl⟩ : ∃ j : Nat, x = (j : Int) := ⟨x.toNat, by omega⟩
              have e4 : decide ((j : Int) < 0) = false := decide_eq_false h0
              by_cases hjn : j < n
              · have e5 : decide ((n : Int) ≤ (j : Int)) = false := decide_eq_false (by omega)
                have e6 : decide (n ≤ j) = false := decide_eq_false (by omega)
                have f3 := W3.cell hjn
                have f4 := W3.frozen j
                by_cases hm : (j : Int) ∈ o.take k
                · rw [show thereF (o.take k) j = .bool true by unfold thereF; rw [decide_eq_true hm]] at f3
                  obtain rfl : D = false := HBAD.out fun h => h.2.2.1 hm
                  clear F3 W3 hm
                  go_wp2_with fail
                  go_ret
                  exact ⟨rfl, B3⟩
                · rw [show thereF (o.take k) j = .bool false by unfold thereF; rw [decide_eq_false hm]] at f3
                  have HM := Lib.hid hm
                  have hjq : j < qs.length := by rw [HQL.out]; exact hjn
                  obtain ⟨b1, off1, hA1, -, hc1, -, -, -, hrz⟩ := riAt (HKT.out _ C3) hjq
                  subst hA1
                  have HZ := Lib.hid (HQZ.out j hjq)
                  generalize qs[j] = q at *
                  obtain ⟨Aq, cq, zs⟩ := q
                  simp only at hc1 hrz HZ
                  have HZM : Hid (∀ i, i < zs.length → ∃ r : Nat, zs.getD i 0 = (r : Int) ∧ r < n) := Lib.hid (fun i hi => by
                    have hmem : zs.getD i 0 ∈ zs := by
                      rw [show zs.getD i 0 = zs[i] by simp [List.getD, List.getElem?_eq_getElem hi]]
                      exact List.getElem_mem hi
                    rw [HZ.out] at hmem
                    obtain ⟨r, hr1, hr2, -⟩ := mem_turnTo.1 hmem
                    exact ⟨r, by rw [HZ.out]; exact hr2, hr1⟩)
                  have HZT := Lib.hid (fun (i : Nat) (h : i < zs.length) => take_nextI zs i h)
                  have HZE : Hid (zs.take zs.length = zs) := Lib.hid List.take_length
                  have hqn : qs.length = n := HQL.out
                  have hzl : zs.length ≤ 4096 := by rw [HZ.out]; exact Nat.le_trans (turnTo_length _ _ _) hn
                  have HZS : Hid ((∀ r ∈ zs, r ∈ o.take k ∨ r ∈ b) ↔ StepOk L b (o.take k) j) := Lib.hid (by
                    unfold StepOk
                    rw [Int.toNat_natCast, HLN.out, ← HZ.out]
                    exact ⟨fun h => ⟨by omega, by omega, HM.out, h⟩, fun h => h.2.2.2⟩)
                  clear hm
                  go_wp2_with fail
                  go_loop [80] (fun s => ∃ i : Nat, i ≤ zs.length ∧ s = .int .i64 i ∧ ∀ r ∈ zs.take i, r ∈ o.take k ∨ r ∈ b) (fun s => zs.length - (intOf s).toNat)
                  case atStart => exact ⟨0, Nat.zero_le _, rfl, by simp⟩
                  case round =>
                    obtain ⟨i, hi, rfl, hall⟩ := hrel
                    have HALL := Lib.hid hall
                    clear hall
                    by_cases hiz : i < zs.length
                    · obtain ⟨b2, off2, rfl, -, hc2⟩ := hrz (by omega)
                      have hci := hc2 i hiz
                      obtain ⟨r, hzr, hrn⟩ := HZM.out i hiz
                      have HZN := Lib.hid (HZT.out i hiz)
                      rw [hzr] at hci HZN
                      have d5 : decide ((i : Int) < (zs.length : Int)) = true := decide_eq_true (by omega)
                      have d6 : decide (i < zs.length) = true := decide_eq_true hiz
                      have g1 := W3.cell hrn
                      have g2 := F3.cell hrn
                      have HMR : Hid ((r : Int) ∈ zs) := Lib.hid (by
                        rw [← hzr, show zs.getD i 0 = zs[i] by simp [List.getD, List.getElem?_eq_getElem hiz]]
                        exact List.getElem_mem hiz)
                      clear hc2 hzr
                      by_cases hw : (r : Int) ∈ o.take k
                      · rw [show thereF (o.take k) r = .bool true by unfold thereF; rw [decide_eq_true hw]] at g1
                        have HW := Lib.hid hw
                        clear hw g2
                        go_wp2_with fail
                        go_round
                        case rel => exact ⟨i + 1, hiz, by go_num, fun r' hr' => by
                          rw [HZN.out] at hr'
                          rcases List.mem_append.1 hr' with h | h
                          · exact HALL.out r' h
                          · exact .inl (by rw [List.mem_singleton.1 h]; exact HW.out)⟩
                        case measure => simp [intOf] <;> omega
                      · rw [show thereF (o.take k) r = .bool false by unfold thereF; rw [decide_eq_false hw]] at g1
                        have HW := Lib.hid hw
                        clear hw
                        by_cases hf : (r : Int) ∈ b
                        · rw [show thereF b r = .bool true by unfold thereF; rw [decide_eq_true hf]] at g2
                          have HF := Lib.hid hf
                          clear hf
                          go_wp2_with fail
                          go_round
                          case rel => exact ⟨i + 1, hiz, by go_num, fun r' hr' => by
                            rw [HZN.out] at hr'
                            rcases List.mem_append.1 hr' with h | h
                            · exact HALL.out r' h
                            · exact .inr (by rw [List.mem_singleton.1 h]; exact HF.out)⟩
                          case measure => simp [intOf] <;> omega
                        · rw [show thereF b r = .bool false by unfold thereF; rw [decide_eq_false hf]] at g2
                          have HF := Lib.hid hf
                          clear hf
                          obtain rfl : D = false := HBAD.out fun h => by
                            rcases HZS.out.2 h r HMR.out with h | h
                            · exact HW.out h
                            · exact HF.out h
                          go_wp2_with fail
                          go_ret
                          exact ⟨rfl, B3⟩
                    · obtain rfl : i = zs.length := by omega
                      have d5 : decide ((zs.length : Int) < (zs.length : Int)) = false := decide_eq_false (by omega)
                      have d6 : decide (zs.length < zs.length) = false := decide_eq_false (by omega)
                      rw [HZE.out] at HALL
                      have HGN := Lib.hid (HGOOD.out (HZS.out.1 HALL.out))
                      have W4 := there_put W3 j
                      rw [← HN.out] at W4
                      have WH := Lib.hid W4
                      have FH := Lib.hid (F3.setOther (a := ⟨wo.heap.size, j, none⟩) (show w1.heap.size ≠ wo.heap.size by omega) (.bool true))
                      have B4 := B3.setCell (p := ⟨wo.heap.size, j, none⟩) (show w.heap.size ≤ wo.heap.size by omega) (.bool true)
                      have C4 := C3.setCell (p := ⟨wo.heap.size, j, none⟩) (show w1.heap.size ≤ wo.heap.size by omega) (.bool true)
                      clear W3 W4 F3
                      go_wp2_with fail
                      go_roundw
                      case rel => exact ⟨_, _, _, _, ⟨k + 1, hlt, rfl, HGN.out, FH.out, WH.out⟩, rfl, rfl, rfl, by go_num⟩
                      case measure => simp [intOf] <;> omega
              · have e5 : decide ((n : Int) ≤ (j : Int)) = true := decide_eq_true (by omega)
                have e6 : decide (n ≤ j) = true := decide_eq_true (by omega)
                obtain rfl : D = false := HBAD.out fun h => by have := h.2.1; rw [HLN.out] at this; omega
                clear F3 W3
                go_wp2_with fail
                go_ret
                exact ⟨rfl, B3⟩
            · obtain rfl : k = o.length := by omega
              have d3 : decide ((o.length : Int) < (o.length : Int)) = false := decide_eq_false (by omega)
              have d4 : decide (o.length < o.length) = false := decide_eq_false (by omega)
              obtain rfl : D = true := HG.out.symm.trans (HEN.out _)
              clear F3 W3
              go_wp2_with fail
              go_ret
              exact ⟨rfl, B3⟩
    · rw [if_neg hq] at HD
      obtain rfl : D = false := HD.out.symm
      have e1 : ((o.length : Int) != (rs.length : Int)) = true := by rw [bne_iff_ne]; omega
      have e2 : ((o.length : Int) == (rs.length : Int)) = false := by rw [beq_eq_false_iff_ne]; omega
      have GTH := Lib.hid GT
      clear hR hq GT hr hro hrb
      go_enter Try.func25, Try.ntmps25
      go_wp2_with (go_at_call 18; refine GTH.out.mono ?_; rintro e w1 ⟨A1, c1, qs, rfl, k1, k2, k3, k4, hb1⟩)
      go_ret
      exact ⟨rfl, hb1⟩
  · simp only [if_neg hR] at GT
    rw [if_neg hR] at HD
    obtain rfl : D = false := HD.out.symm
    have GTH := Lib.hid GT
    clear hR GT hr hro hrb
    go_enter Try.func25, Try.ntmps25
    go_wp2_with (go_at_call 18; refine GTH.out.mono ?_; rintro e w1 ⟨A1, c1, qs, rfl, k1, k2, k3, k4, hb1⟩)
    go_ret
    exact ⟨rfl, hb1⟩
end Go.Proofs.Ytojmcjkeniepcaa.Ord
