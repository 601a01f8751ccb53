/-
  MatchRows: the walk: a row of 32 bytes of the new image that the old one has somewhere isn't left out as a whole.
-/
import Derived.Test.YtlojimhllbicjaaMGMows7
import Derived.Deep.QuietTactic
namespace Go.Proofs.Ytlojimhllbicjaa.MatchRows
open Go.ChangeShapes Go.WideShapes Go.ChangeAt Go.RowKit Go.Proofs.Ytlojimhllbicjaa.Kit Go.Proofs.Ytlojimhllbicjaa.Mt Go.Proofs.Ytlojimhllbicjaa.Mx

set_option maxRecDepth 100000 in
set_option maxHeartbeats 6400000 in
theorem walk (A1 : Option Addr) (xs : List Int) (c1 : Nat) (A2 : Option Addr) (ys : List Int) (c2 : Nat) (n : Int) (w : World) (l1 : xs.length ≤ c1) (m1 : c1 ≤ maxLen) (ox : Octets xs) (r1 : Holds w w.heap.size .u8 A1 xs) (l2 : ys.length ≤ c2) (m2 : c2 ≤ maxLen) (oy : Octets ys) (r2 : Holds w w.heap.size .u8 A2 ys) (wn : (Lit.int .i64 n).wf = true) :
    Calls Try.prog 6 #[.slice A1 xs.length c1, .slice A2 ys.length c2, .int .i64 n] w fun e w' => e = .returned (.bool true) ∧ Below w.heap.size w w' := by
  have bn := bounds_i64 wn
  clear wn
  unfold maxLen at m1 m2
  have GA := Lib.hid (fun W => awake_any W)
  have R1 := Lib.hid r1
  have R2 := Lib.hid r2
  clear r1 r2
  by_cases h7 : 1000 < xs.length
  · have d2 : decide ((1000 : Int) < (xs.length : Int)) = true := decide_eq_true (by omega)
    go_enter Try.func6, Try.ntmps6
    go_wp2_with (go_at_call 7; (with_reducible refine (GA.out _).mono ?_); rintro e w2 ⟨rfl, hb⟩)
    go_ret
    exact ⟨rfl, hb⟩
  have d2 : decide ((1000 : Int) < (xs.length : Int)) = false := decide_eq_false (by omega)
  by_cases h8 : 1000 < ys.length
  · have d3 : decide ((1000 : Int) < (ys.length : Int)) = true := decide_eq_true (by omega)
    go_enter Try.func6, Try.ntmps6
    go_wp2_with (go_at_call 7; (with_reducible refine (GA.out _).mono ?_); rintro e w2 ⟨rfl, hb⟩)
    go_ret
    exact ⟨rfl, hb⟩
  have d3 : decide ((1000 : Int) < (ys.length : Int)) = false := decide_eq_false (by omega)
  by_cases h9 : n < 0
  · have d4 : decide (n < 0) = true := decide_eq_true h9
    go_enter Try.func6, Try.ntmps6
    go_wp2_with (go_at_call 7; (with_reducible refine (GA.out _).mono ?_); rintro e w2 ⟨rfl, hb⟩)
    go_ret
    exact ⟨rfl, hb⟩
  obtain ⟨a, rfl⟩ : ∃ a : Nat, n = (a : Int) := ⟨n.toNat, by omega⟩
  have d4 : decide ((a : Int) < 0) = false := decide_eq_false h9
  by_cases h10 : (ys.length : Int) ≤ (a : Int)
  · have d5 : decide ((ys.length : Int) ≤ (a : Int)) = true := decide_eq_true h10
    go_enter Try.func6, Try.ntmps6
    go_wp2_with (go_at_call 7; (with_reducible refine (GA.out _).mono ?_); rintro e w2 ⟨rfl, hb⟩)
    go_ret
    exact ⟨rfl, hb⟩
  have d5 : decide ((ys.length : Int) ≤ (a : Int)) = false := decide_eq_false h10
  by_cases h11 : (ys.length : Int) - (a : Int) < 32
  · have d6 : decide ((ys.length : Int) - (a : Int) < 32) = true := decide_eq_true h11
    go_enter Try.func6, Try.ntmps6
    go_wp2_with (go_at_call 7; (with_reducible refine (GA.out _).mono ?_); rintro e w2 ⟨rfl, hb⟩)
    go_ret
    exact ⟨rfl, hb⟩
  have d6 : decide ((ys.length : Int) - (a : Int) < 32) = false := decide_eq_false h11
  obtain ⟨b2, off2, rfl, _, _⟩ := R2.out (by omega)
  have hlen : ((ys.drop a).take 32).length = 32 := by rw [List.length_take, List.length_drop]; omega
  have GS := stands_any (w := w) (xs := xs) (zs := (ys.drop a).take 32) A1 (some ⟨b2, off2 + a, none⟩) c1 (c2 - a) R1.out (holds_cut R2.out a 32) l1 (by omega) ox (fun x hx => oy x (List.mem_of_mem_drop (List.mem_of_mem_take hx))) (by omega) (by omega)
  rw [hlen] at GS
  have HGS := Lib.hid GS
  clear GS
  have HLEN := Lib.hid hlen
  clear hlen
  have hsub : a + 32 - a = 32 := by omega
  have hac : a + 32 ≤ c2 := by omega
  have hcn : ¬ c2 = a := by omega
  have GF := Lib.hid (fun m : Nat => find_any (w := w.drewN m) A1 (some ⟨b2, off2, none⟩) c1 c2 R1.out R2.out (by omega) (by omega) ox oy l2)
  go_enter Try.func6, Try.ntmps6
  go_wp2_with fail
  refine HGS.out.mono ?_
  rintro e w1 ⟨⟨s, rfl, hs⟩, m, rfl⟩
  have HS := Lib.hid hs
  clear hs HGS
  cases s with
  | false =>
    go_wp2_with (go_at_call 7; (with_reducible refine (GA.out _).mono ?_); rintro e w2 ⟨rfl, hb⟩)
    go_ret
    exact ⟨rfl, (below_draws (Below.refl _ _) m).trans hb⟩
  | true =>
    go_wp2_with fail
    refine (GF.out m).mono ?_
    rintro e w2 ⟨A9, c9, ps, e9, rfl, hfl, hh, hb⟩
    obtain ⟨k, hk, hq⟩ := HS.out trivial
    rw [HLEN.out] at hk hq
    obtain ⟨i0, hi0, hm1, hm2⟩ := met_at hfl (by omega) hk hq
    have HM := Lib.hid (⟨hm1, hm2⟩ : ps[i0].n < (a : Int) + 32 ∧ (a : Int) < ps[i0].n + ps[i0].l)
    have hfew := hfl.few
    have HFL := Lib.hid hfl
    have HH := Lib.hid hh
    have HB := Lib.hid ((below_draws (Below.refl w.heap.size w) m).trans hb)
    clear hm1 hm2 hfl hh hb hq hk HS GF
    go_wp2_with fail
    go_loopw [8] (fun i wr => ∃ j : Nat, j ≤ i0 ∧ i = .int .i64 j ∧ Below w2.heap.size w2 wr) (fun i _ => ps.length - (intOf i).toNat)
    case atStart => exact ⟨0, Nat.zero_le _, rfl, Below.refl _ _⟩
    case round =>
      obtain ⟨j, hj, rfl, hB⟩ := hrel
      have hlt : j < ps.length := by omega
      have d7 : decide ((j : Int) < (ps.length : Int)) = true := decide_eq_true (by omega)
      have d8 : decide (j < ps.length) = true := decide_eq_true hlt
      obtain ⟨b, off, rfl, hbB, hc⟩ := (HH.out.below hB) (by omega)
      obtain ⟨k0, k1, k2⟩ := hc j ps[j] (List.getElem?_eq_getElem hlt)
      have hone := one_bd (runL_one HFL.out.run ps[j] (List.getElem_mem hlt))
      have hBw := HB.out.trans (hB.mono HB.out.size)
      have HNE : Hid (¬ (ps[j].n < (a : Int) + 32 ∧ (a : Int) < ps[j].n + ps[j].l) → j ≠ i0) := Lib.hid (fun hn e => by subst e; exact hn HM.out)
      clear hc
      generalize ps[j] = p at *
      obtain ⟨pn, po, pl⟩ := p
      simp only at k0 k1 k2 hone HNE
      by_cases g1 : pn < (a : Int) + 32
      · have d9 : decide (pn < (a : Int) + 32) = true := decide_eq_true g1
        by_cases g2 : (a : Int) < pn + pl
        · have d10 : decide ((a : Int) < pn + pl) = true := decide_eq_true g2
          clear HNE
          go_wp2_with fail
          go_quiet (fail)
          go_wp2_with (go_at_call 7; (with_reducible refine (GA.out _).mono ?_); rintro e w3 ⟨rfl, hb3⟩)
          go_ret
          exact ⟨rfl, (below_draws hBw _).trans (hb3.mono hBw.size)⟩
        · have d10 : decide ((a : Int) < pn + pl) = false := decide_eq_false g2
          have hne := HNE.out (fun h => g2 h.2)
          clear HNE
          go_wp2_with fail
          go_quiet (fail)
          go_wp2_with fail
          go_roundw
          case rel => exact ⟨j + 1, by omega, by go_num, below_draws hB _⟩
          case measure => simp [intOf] <;> omega
      · have d9 : decide (pn < (a : Int) + 32) = false := decide_eq_false g1
        have hne := HNE.out (fun h => g1 h.1)
        clear HNE
        go_wp2_with fail
        go_quiet (fail)
        go_wp2_with fail
        go_roundw
        case rel => exact ⟨j + 1, by omega, by go_num, below_draws hB _⟩
        case measure => simp [intOf] <;> omega
end Go.Proofs.Ytlojimhllbicjaa.MatchRows
