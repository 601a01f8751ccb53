/-
  Layer 9, huff: the document's Next. Conditions: as each theorem names.
-/
import Derived.Test.YthflefdchgpbdaaDoorMGIces10
import Derived.Test.YthflefdchgpbdaaDoorMBitN
import Derived.BigQuiet
import Derived.OwnWalk
import Derived.StillTailTactics
namespace Go.Proofs.YthflefdchgpbdaaDoor.Huf
open Go.ChangeShapes Go.WideShapes Go.ChangeAt Go.RowKit Go.Proofs.YthflefdchgpbdaaDoor.Kit Go.Proofs.YthflefdchgpbdaaDoor.Bits

theorem codes_length (l : List Int) : (codes l).length = l.length := by simp [codes]
theorem codes_get (l : List Int) (s : Nat) (h : s < l.length) : (codes l).getD s 0 = code l s := by simp [codes, List.getD, h]
theorem clamp_nat (n : Nat) (h : n ≤ 32) : clampN (n : Int) = n := by
  unfold clampN
  rw [if_neg (by omega), if_neg (by omega)]
  omega

set_option maxRecDepth 100000 in
set_option maxHeartbeats 3200000 in
theorem rnext_any (A A2 A3 : Option Addr) (l bits : List Int) (c c2 c3 : Nat) (w : World) (hM : mayB l = true) (ho : Octets l) (hl : l.length ≤ 300) (hbit : Bit bits) (hbl : bits.length ≤ 1000000)
    (hr : Holds w w.heap.size .u8 A l) (hr2 : Holds w w.heap.size .u16 A2 (codes l)) (hr3 : Holds w w.heap.size .u8 A3 bits) :
    Calls Tryd.prog 53 #[.slice A l.length c, .slice A2 l.length c2, .slice A3 bits.length c3] w fun e w' => e = .returned (toldV (told l bits)) ∧ Below w.heap.size w w' := by
  go_enter Tryd.func53, Tryd.ntmps53
  go_wp2_with fail
  go_loopw [9, 16] (fun xg s wr => ∃ (i : Nat) (g : Bool), i ≤ l.length ∧ s = .int .i64 i ∧ xg = .bool g ∧ Sofar l bits i g ∧ Below w.heap.size w wr) (fun _ s _ => l.length - (intOf s).toNat)
  case atStart => exact ⟨0, false, Nat.zero_le _, rfl, rfl, sofar_zero l bits, Below.refl _ _⟩
  case round =>
    obtain ⟨i, g, hi, rfl, rfl, hS, hb⟩ := hrel
    have HS := Lib.hid hS
    clear hS
    by_cases hlt : i < l.length
    · obtain ⟨bb, off, rfl, hbb, hcs⟩ := (hr.below hb) (by omega)
      have hci := hcs i hlt
      have hx := ho l[i] (List.getElem_mem hlt)
      have hg : l.getD i 0 = l[i] := by simp [List.getD, hlt]
      rw [← hg] at hx
      have hil : (i : Int) < (l.length : Int) := by omega
      have hi0 : (0 : Int) ≤ (i : Int) := by omega
      clear hcs hg
      by_cases h0 : l.getD i 0 = 0
      · have Hn := Lib.hid h0
        rw [h0] at hci
        clear h0 hx
        go_wp2_with fail
        go_roundw
        case rel => exact ⟨i + 1, g, by omega, by go_num, rfl, sofar_skip HS.out Hn.out, hb⟩
        case measure => simp [intOf] <;> omega
      · obtain ⟨n, hn⟩ := Int.eq_ofNat_of_zero_le hx.1
        have hn0 : 0 < n := by omega
        obtain ⟨hce, hc0, hc1, h15⟩ := code_eq hM ho i hlt n hn0 hn
        have hle := fc_cnt_le hM ho n hn0 h15
        have hp : (2 : Int) ^ n ≤ 2 ^ 15 := p2_le h15
        rw [show (2 : Int) ^ 15 = 32768 by decide] at hp
        have hcb : 0 ≤ code l i ∧ code l i < 32768 := by omega
        obtain ⟨b2, off2, rfl, hb2, hcs2⟩ := (hr2.below hb) (by rw [codes_length]; omega)
        have hci2 := hcs2 i (by rw [codes_length]; exact hlt)
        rw [codes_get l i hlt] at hci2
        have hba : bitsAt l i = (num (code l i) n).reverse := by unfold bitsAt; rw [hn, Int.toNat_natCast]
        have Hba := Lib.hid hba
        have Hn := Lib.hid hn
        rw [hn] at hci
        have dz : ((n : Int) == 0) = false := by rw [beq_eq_false_iff_ne]; omega
        clear hn hx hce hc0 hc1 hle hp hcs2 h0 hba
        generalize code l i = x at *
        go_wp2_with fail
        go_still_tail 10, (by kernel_rfl)
        change wpList _ _ _ _ _ wr.drew
        have hw1 : IntKind.u32.wrap x = x := by rw [IntKind.wrap_u32]; omega
        have hw2 : IntKind.i64.wrap (n : Int) = (n : Int) := IntWalk.i64_in _ (by omega)
        have hb3 : Below w.heap.size w wr.drew := below_draws hb 1
        clear hci hci2 hb hb2 hbb
        generalize wr.drew = w2 at *
        go_wp2_with fail
        rw [hw1, hw2]
        refine (rcode_any x (n : Int) w2 (by omega) (by omega)).mono ?_
        rintro e w4 ⟨v4, rfl, own4, hb4⟩
        rw [clamp_nat n (by omega), ← Hba.out] at own4
        have hql : (bitsAt l i).length = n := by rw [bitsAt_length, Hn.out, Int.toNat_natCast]
        have Hql := Lib.hid hql
        obtain ⟨g4, cap4, rfl, hg4, hg5, _, _⟩ := own4.form (by rw [hql]; exact hn0)
        have hb5 := hb3.trans (hb4.mono hb3.size)
        have hbits := hr3.below hb5
        have hcq : ∀ k, k < n → w4.cell? ⟨g4, k, none⟩ = some (.int .u8 ((bitsAt l i)[k]?.getD 0)) := fun k hk => own4.cellAt rfl (by rw [hql]; exact hk)
        rw [hql]
        clear hw1 hw2 hb4 own4 hb3 hql
        go_wp2_with fail
        go_loopw [12, 13] (fun xs s wq => ∃ k : Nat, k ≤ n ∧ k ≤ bits.length ∧ s = .int .i64 k ∧ xs = .bool (decide ((bitsAt l i).take k = bits.take k)) ∧ Below w4.heap.size w4 wq) (fun _ s _ => n - (intOf s).toNat)
        case atStart => exact ⟨0, Nat.zero_le _, Nat.zero_le _, rfl, by simp, Below.refl _ _⟩
        case round =>
          obtain ⟨k, hkn, hkb, rfl, rfl, hb6⟩ := hrel
          by_cases h1 : k < n
          · by_cases h2 : k < bits.length
            · obtain ⟨b3, o3, rfl, hb3, hcs3⟩ := hbits (by omega)
              have hs5 := hb5.size
              have hz : bits.getD k 0 = bits[k]?.getD 0 := rfl
              have e3 := (hb6.cell (p := ⟨b3, o3 + k, none⟩) (by show b3 < _; omega)).trans (hcs3 k h2)
              have eq := (hb6.cell (p := ⟨g4, k, none⟩) hg5).trans (hcq k h1)
              rw [hz] at e3
              have hsn := same_next (bitsAt l i) bits k (by rw [Hql.out]; exact h1) h2
              have Hsn := Lib.hid hsn
              have hkn0 : (k : Int) < (n : Int) := by omega
              have hkb0 : (k : Int) < (bits.length : Int) := by omega
              have hk0 : (0 : Int) ≤ (k : Int) := by omega
              have Hcq := Lib.hid hcq
              clear hcs3 hz hsn hcq hbits
              generalize hsb : decide ((bitsAt l i).take k = bits.take k) = sb at *
              generalize (bitsAt l i)[k]?.getD 0 = y at *
              generalize bits[k]?.getD 0 = z at *
              clear hsb
              cases sb
              all_goals
                go_wp2_with fail
                go_quiet (fail)
                go_wp2_with fail
                go_roundw
                case rel => exact ⟨k + 1, by omega, by omega, by go_num, by rw [← Hsn.out]; simp, below_draws hb6 _⟩
                case measure => simp [intOf] <;> omega
            · obtain rfl : k = bits.length := by omega
              have hS2 := sofar_brief hM ho hbit hlt hn0 Hn.out h1 HS.out
              rw [List.take_of_length_le (Nat.le_refl _)]
              have HS2 := Lib.hid hS2
              have hkn0 : ((bits.length : Nat) : Int) < (n : Int) := by omega
              have hnk0 : ¬ (n : Int) ≤ ((bits.length : Nat) : Int) := by omega
              have hk0 : (0 : Int) ≤ ((bits.length : Nat) : Int) := by omega
              have hb7 := hb5.trans (hb6.mono hb5.size)
              clear hcq hbits hS2
              generalize hsb : decide ((bitsAt l i).take bits.length = bits) = sb at *
              clear hsb
              cases sb
              all_goals
                cases g
                all_goals
                  go_wp2_with fail
                  go_roundw
                  case rel => exact ⟨i + 1, _, by omega, by go_num, rfl, HS2.out, hb7⟩
                  case measure => simp [intOf] <;> omega
          · obtain rfl : k = n := by omega
            have hb7 := hb5.trans (hb6.mono hb5.size)
            by_cases he : (bitsAt l i).take k = bits.take k
            · have ht := sofar_match hM ho hbit hlt hn0 Hn.out hkb he
              rw [decide_eq_true he]
              have Ht := Lib.hid ht
              have hkb0 : (k : Int) ≤ (bits.length : Int) := by omega
              clear hcq hbits ht he
              go_wp2_with fail
              go_ret3
              rw [Ht.out]
              exact ⟨rfl, hb7⟩
            · have hS2 := sofar_long hM ho hbit hlt hn0 Hn.out hkb he HS.out
              rw [decide_eq_false he]
              have HS2 := Lib.hid hS2
              have hkb0 : (k : Int) ≤ (bits.length : Int) := by omega
              clear hcq hbits hS2 he
              cases g
              all_goals
                go_wp2_with fail
                go_roundw
                case rel => exact ⟨i + 1, _, by omega, by go_num, rfl, HS2.out, hb7⟩
                case measure => simp [intOf] <;> omega
    · obtain rfl : i = l.length := by omega
      have ht := sofar_end hM ho hbit HS.out
      have Ht := Lib.hid ht
      clear ht
      cases g
      all_goals
        go_wp2_with fail
        go_ret3
        rw [Ht.out]
        exact ⟨rfl, hb⟩
end Go.Proofs.YthflefdchgpbdaaDoor.Huf
