/-
  Layer 8, bits: the document's row of bytes. Conditions: as the theorem names.
-/
import Derived.Test.YtpofdlcadobdoaaBitN
namespace Go.Proofs.Ytpofdlcadobdoaa.Bits
open Go.ChangeShapes Go.WideShapes Go.ChangeAt Go.RowKit Go.Proofs.Ytpofdlcadobdoaa.Kit

set_option maxHeartbeats 3200000 in
theorem rbytes_any (A : Option Addr) (l : List Int) (c : Nat) (w : World) (hl : l.length ≤ 1000000) (hb : Bit l) (hr : Holds w w.heap.size .u8 A l) :
    Calls Try.prog 16 #[.slice A l.length c] w (GivesRow (bytesOf ((l.length + 7) / 8) l) w) := by
  have own0 := Own.empty (B := w.heap.size) w 5 .u8 (Nat.le_refl _)
  have hb0 : Below w.heap.size w (w.alloc (.cells #[] 5)) := (Below.refl _ _).alloc (Nat.le_refl _) _
  go_enter Try.func16, Try.ntmps16
  go_wp2
  go_loopw [3, 8] (fun v s wr => ∃ i : Nat, i ≤ l.length ∧ s = .int .i64 i ∧ Own wr w.heap.size 5 .u8 v (bytesOf ((i + 7) / 8) (l.take i)) ∧ Below w.heap.size w wr) (fun _ s _ => l.length - (intOf s).toNat)
  case atStart => exact ⟨0, Nat.zero_le _, rfl, own0, hb0⟩
  case round =>
    obtain ⟨i, hi, rfl, own1, hb1⟩ := hrel
    by_cases hlt : i < l.length
    · obtain ⟨bb, off, rfl, hbl, hc⟩ := hr (by omega)
      have hci := hc i hlt
      have hx := hb l[i] (List.getElem_mem _)
      have hts : l.take (i + 1) = l.take i ++ [l[i]] := by rw [List.take_add_one, List.getElem?_eq_getElem hlt]; rfl
      rw [show l.getD i 0 = l[i] by simp [List.getD, hlt]] at hci
      have hlen : (l.take i).length = i := by simp; omega
      have hbt := hb.take i
      generalize l[i] = x at *
      generalize l.take i = L at *
      obtain ⟨k, hk⟩ : ∃ k, i / 8 = k := ⟨_, rfl⟩
      obtain ⟨j, hj⟩ : ∃ j, i % 8 = j := ⟨_, rfl⟩
      have d1 : (i : Int) / 8 = (k : Int) := by omega
      have hil : i ≤ 1000000 := by omega
      have hk1 : k ≤ 1000000 := by omega
      by_cases hj0 : j = 0
      · have d2 : (i : Int) % 8 = 0 := by omega
        have hnew := bytes_new L x k (by omega)
        rw [show (i + 7) / 8 = k by omega] at own1
        have hbk := bytesOf_length k L
        have Hts := Lib.hid hts
        have Hnew := Lib.hid hnew
        have Hbk := Lib.hid hbk
        have Hk := Lib.hid hk
        have hq : (bytesOf k L).length ≤ 1000000 := by omega
        generalize bytesOf k L = q at *
        have hs1 := hb1.size
        clear hc hts hlen hk hj hj0 hnew hbk
        go_wp2_with (at_builtin; refine wpList_append_one (z := 0) _ rfl _ _ _ rfl elem8 own1 rfl rfl (by omega) (by omega) ?_; intro v3 w3 own3 hg3 hb3)
        obtain ⟨g3, cap3, rfl, hg3a, hg3b, _, _⟩ := own3.form (by simp)
        have hgx : (q ++ [0])[k]?.getD 0 = 0 := by simp [Hbk.out.symm]
        have hk3 := own3.cellAt rfl (i := k) (by have := Hbk.out; simp; omega)
        rw [hgx] at hk3
        have fz := own3.frozenAt rfl k
        have hci3 := ((hb1.trans (hb3.mono (Nat.le_refl _))).cell (p := ⟨bb, off + i, none⟩) hbl).trans hci
        have hkl : (k : Int) < ((q ++ [0]).length : Int) := by have := Hbk.out; simp; omega
        have hw : IntKind.i64.wrap (k : Int) = (k : Int) := IntWalk.i64_in _ (by omega)
        have hil2 : (i : Int) < (l.length : Int) := by omega
        have hk0 : (0 : Int) ≤ (k : Int) := by omega
        have hi0 : (0 : Int) ≤ (i : Int) := by omega
        have st := fun z => own3.stored rfl k z
        have St := Lib.hid st
        have Own3 := Lib.hid own3
        clear hgx st own3 hg3 hk1 hil hq
        generalize (q ++ [0]).length = n3 at *
        go_region
        go_wp2_with fail
        go_roundw
        case rel =>
          have hset : (q ++ [0]).set k x = q ++ [x] := by
            have := Hbk.out
            rw [List.set_append_right _ _ (by omega), show k - q.length = 0 by omega]
            rfl
          obtain ⟨o4, g4⟩ := St.out x
          rw [hset] at o4
          refine ⟨i + 1, by omega, by go_num, ?_, (hb1.trans hb3).trans (below_draws (below_of_grown g4 (by omega) fun g hg => by injection hg with hg; omega) 1)⟩
          rw [Hts.out, show (i + 1 + 7) / 8 = k + 1 by have := Hk.out; omega, Hnew.out]
          exact o4.drewN 1
        case measure => simp [intOf] <;> omega
      · have d2 : (i : Int) % 8 = (j : Int) := by omega
        have hnew := bytes_more L x k j (by omega) (by omega)
        have hv := val_bd (hbt.drop (8 * k))
        rw [show (L.drop (8 * k)).length = j by simp; omega] at hv
        rw [show (i + 7) / 8 = k + 1 by omega] at own1
        have hbk := bytesOf_length (k + 1) L
        generalize val (L.drop (8 * k)) = y at *
        obtain ⟨hnew, hget⟩ := hnew
        have hz : (y + x * 2 ^ j) % 256 = y + x * 2 ^ j := by
          have h1 := p2_pos j
          have h2 : (2 : Int) ^ (j + 1) ≤ 2 ^ 8 := p2_le (by omega)
          rw [show (2 : Int) ^ 8 = 256 by decide, Int.pow_succ] at h2
          have h3 : 0 ≤ x * 2 ^ j ∧ x * 2 ^ j ≤ 2 ^ j := by
            rcases (show x = 0 ∨ x = 1 by omega) with rfl | rfl <;> simp <;> omega
          omega
        have Hts := Lib.hid hts
        have Hnew := Lib.hid hnew
        have Hk := Lib.hid hk
        have Hz := Lib.hid hz
        have hkq : k < (bytesOf (k + 1) L).length := by omega
        generalize bytesOf (k + 1) L = q at *
        obtain ⟨g3, cap3, rfl, hg3a, hg3b, _, _⟩ := own1.form (by omega)
        have hk3 := own1.cellAt rfl (i := k) hkq
        rw [hget] at hk3
        simp only [Option.getD_some] at hk3
        have fz := own1.frozenAt rfl k
        have hci3 := (hb1.cell (p := ⟨bb, off + i, none⟩) hbl).trans hci
        have hkl : (k : Int) < (q.length : Int) := by omega
        have hw : IntKind.i64.wrap (k : Int) = (k : Int) := IntWalk.i64_in _ (by omega)
        have hil2 : (i : Int) < (l.length : Int) := by omega
        have hk0 : (0 : Int) ≤ (k : Int) := by omega
        have hi0 : (0 : Int) ≤ (i : Int) := by omega
        have hj8 : (j : Int) < 8 := by omega
        have hj1 : ((j : Int) == 0) = false := by rw [beq_eq_false_iff_ne]; omega
        have st := fun z => own1.stored rfl k z
        have St := Lib.hid st
        have Own1 := Lib.hid own1
        clear hc hts hlen hk hj hj0 hnew hbk hz hget st own1 hk1 hil hkq hv
        generalize q.length = n3 at *
        go_wp2_with fail
        go_region
        rw [Hz.out]
        go_wp2_with fail
        go_roundw
        case rel =>
          obtain ⟨o4, g4⟩ := St.out (y + x * 2 ^ j)
          refine ⟨i + 1, by omega, by go_num, ?_, hb1.trans (below_draws (below_of_grown g4 hb1.size fun g hg => by injection hg with hg; omega) 1)⟩
          rw [Hts.out, show (i + 1 + 7) / 8 = k + 1 by have := Hk.out; omega, Hnew.out]
          exact o4.drewN 1
        case measure => simp [intOf] <;> omega
    · go_wp2_with fail
      obtain rfl : i = l.length := by omega
      go_ret
      exact ⟨_, rfl, by rwa [List.take_of_length_le (Nat.le_refl _)] at own1, hb1⟩
end Go.Proofs.Ytpofdlcadobdoaa.Bits
