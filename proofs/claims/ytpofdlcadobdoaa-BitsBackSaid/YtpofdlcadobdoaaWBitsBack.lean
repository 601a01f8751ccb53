/-
  BitsBack: the walk: numbers that are put are got, in their order.
-/
import Derived.Test.YtpofdlcadobdoaaBitX
import Derived.StillTailTactics
namespace Go.Proofs.Ytpofdlcadobdoaa.BitsBack
open Go.ChangeShapes Go.WideShapes Go.ChangeAt Go.RowKit Go.Proofs.Ytpofdlcadobdoaa.Kit Go.Proofs.Ytpofdlcadobdoaa.Bits

/-- All numbers' bits. -/
def all : List Stp → List Int
  | [] => []
  | s :: ss => num s.x (clampN s.b) ++ all ss

theorem all_append : ∀ (a b : List Stp), all (a ++ b) = all a ++ all b
  | [], _ => rfl
  | s :: a, b => by simp [all, all_append a b]
theorem all_length : ∀ (ss : List Stp), (all ss).length ≤ 32 * ss.length
  | [] => by simp [all]
  | s :: ss => by
    have h1 := all_length ss
    have h2 := clamp_le s.b
    simp only [all, List.length_append, num_length, List.length_cons]
    omega

set_option maxRecDepth 100000 in
set_option maxHeartbeats 6400000 in
theorem walk (A : Option Addr) (ss : List Stp) (c : Nat) (w : World) (hc : ss.length ≤ c) (hm : c ≤ maxLen) (hr : HoldsE (StpIn .i64 .i64 .u32 w w.heap.size) 4 w w.heap.size A ss) :
    Calls Try.prog 5 #[.slice A ss.length c] w fun e w' => e = .returned (.bool true) ∧ Below w.heap.size w w' := by
  have G0 := Lib.hid (great_any A ss c w hc hm hr)
  cases hgr : greatB ss with
  | true =>
    rw [hgr] at G0
    clear hgr
    go_enter Try.func5, Try.ntmps5
    go_wp2_with fail
    refine G0.out.mono ?_
    rintro e w1 ⟨rfl, rfl⟩
    go_wp2_with fail
    refine (awake_any _).mono ?_
    rintro e w1 ⟨rfl, hb⟩
    go_wp2_with fail
    go_ret
    exact ⟨rfl, hb⟩
  | false =>
    obtain ⟨hlen, _⟩ := great_yes hgr
    rw [hgr] at G0
    clear hgr
    go_enter Try.func5, Try.ntmps5
    go_wp2_with fail
    refine G0.out.mono ?_
    rintro e w1 ⟨rfl, rfl⟩
    go_wp2_with fail
    refine (new_wr w).mono ?_
    rintro e w1 ⟨rfl, W1, b1⟩
    go_wp2_with fail
    go_loopw [4] (fun s wr => ∃ (i : Nat) (v : Value), i ≤ ss.length ∧ s = .int .i64 i ∧ Wr wr w.heap.size w.heap.size v (all (ss.take i)) ∧ Below w.heap.size w wr) (fun s _ => ss.length - (intOf s).toNat)
    case atStart => exact ⟨0, _, Nat.zero_le _, rfl, W1, b1⟩
    case round =>
      obtain ⟨i, v, hi, rfl, W2, b2⟩ := hrel
      have hal := all_length (ss.take i)
      have htl : (ss.take i).length = i := by simp; omega
      by_cases hlt : i < ss.length
      · obtain ⟨b, off, rfl, hbl, c0, c1, c2, c3, k0, k1, k2, h1, h2, hoz, hrz⟩ := stepAt (steps_below hr b2) hlt
        have hsn : all (ss.take (i + 1)) = all (ss.take i) ++ num ss[i].x (clampN ss[i].b) := by
          rw [List.take_add_one, all_append, List.getElem?_eq_getElem hlt]
          simp [all]
        generalize ss[i] = s at *
        obtain ⟨a, n, x, Az, cz, zs⟩ := s
        simp only at c0 c1 c2 c3 k0 k1 k2 h1 h2 hoz hrz hsn
        have hbn := bounds_i64 k1
        have hbx : 0 ≤ x ∧ x < 4294967296 := by have := bounds_u32 k2; omega
        obtain ⟨p, hp1⟩ : ∃ p, (if n < 0 then 0 else n) = p := ⟨_, rfl⟩
        have hp2 : (if 32 < p then 32 else p) = ((clampN n : Nat) : Int) := by rw [← hp1]; exact clamp_eq n
        have hcl : clampN ((clampN n : Nat) : Int) = clampN n := by
          have := clamp_le n
          generalize clampN n = N at *
          unfold clampN
          rw [if_neg (by omega), if_neg (by omega)]
          omega
        have hcle := clamp_le n
        clear k0 k1 k2 hr hrz c0 c3
        have Hsn := Lib.hid hsn
        have Hcl := Lib.hid hcl
        have hl3 : (all (ss.take i)).length ≤ 1000000 := by omega
        clear hsn hcl hal htl
        generalize all (ss.take i) = m at *
        generalize clampN n = N at *
        have hix : (i : Int) < (ss.length : Int) := by omega
        have hi0 : (0 : Int) ≤ (i : Int) := by omega
        go_wp2_with fail
        go_still_tail 13, (by kernel_rfl)
        change wpList _ _ _ _ _ wr.drew
        have W3 : Wr wr.drew w.heap.size w.heap.size v m := ⟨W2.blk, W2.own, W2.bit⟩
        have b3 : Below w.heap.size w wr.drew := below_draws b2 1
        clear W2 b2 c1 c2
        generalize wr.drew = w2 at *
        go_wp2_with fail
        refine (put_any w.heap.size w.heap.size x N N m v _ hbx (by omega) Hcl.out W3 b3.size hl3).mono ?_
        rintro e w4 ⟨rfl, v4, W4, t4, n4⟩
        have b4 := wr_back (v' := v4) W3 (Nat.le_refl _) (Nat.le_refl _) b3 t4
        go_wp2_with fail
        go_roundw
        case rel => exact ⟨i + 1, v4, by omega, by go_num, by rw [Hsn.out]; exact W4, b4⟩
        case measure => simp [intOf] <;> omega
      · obtain rfl : i = ss.length := by omega
        rw [List.take_of_length_le (Nat.le_refl _)] at *
        have hl3 : (all ss).length ≤ 1000000 := by omega
        go_wp2_with fail
        refine (wbytes_any _ _ _ _ _ W2 hl3).mono ?_
        rintro e w3 ⟨vb, rfl, own3, hb3⟩
        have hbl := bytesOf_length (((all ss).length + 7) / 8) (all ss)
        have hbo := bytesOf_octets (((all ss).length + 7) / 8) W2.bit
        have hpad := bits_bytes_pad W2.bit
        have hpl := pad_length (all ss)
        generalize bytesOf (((all ss).length + 7) / 8) (all ss) = ys at *
        obtain ⟨A3, c3, rfl, _, _, hr3⟩ := own3.opened
        have b3 := b2.trans (hb3.mono b2.size)
        have Hpad := Lib.hid hpad
        have hyl : ys.length ≤ 100000 := by omega
        have hy8 : (all ss).length ≤ 8 * ys.length ∧ 8 * ys.length < (all ss).length + 8 := by omega
        clear hpad hpl hbl
        go_wp2_with fail
        refine (newr_any A3 ys c3 w3 (by omega) hr3).mono ?_
        rintro e w4 ⟨g, vr, rfl, hg, R4, hb4⟩
        have b4 := b3.trans (hb4.mono b3.size)
        have hs3 := b3.size
        clear own3 hr3 W2 hb3
        go_wp2_with fail
        go_loopw [6] (fun s wr => ∃ i : Nat, i ≤ ss.length ∧ s = .int .i64 i ∧ Rd wr w3.heap.size g vr ys (all (ss.take i)).length ∧ Below w.heap.size w wr ∧ Below w3.heap.size w3 wr) (fun s _ => ss.length - (intOf s).toNat)
        case atStart => exact ⟨0, Nat.zero_le _, rfl, R4, b4, hb4⟩
        case round =>
          obtain ⟨i, hi, rfl, R5, b5, b5'⟩ := hrel
          have hs5 := b5'.size
          by_cases hlt : i < ss.length
          · obtain ⟨b, off, rfl, hbl, c0, c1, c2, c3, k0, k1, k2, h1, h2, hoz, hrz⟩ := stepAt (steps_below hr b5) hlt
            have hsn : all (ss.take (i + 1)) = all (ss.take i) ++ num ss[i].x (clampN ss[i].b) := by
              rw [List.take_add_one, all_append, List.getElem?_eq_getElem hlt]
              simp [all]
            have hsplit : all ss = all (ss.take i) ++ (num ss[i].x (clampN ss[i].b) ++ all (ss.drop (i + 1))) := by
              rw [← List.append_assoc, ← hsn, ← all_append, List.take_append_drop]
            generalize ss[i] = s at *
            obtain ⟨a, n, x, Az, cz, zs⟩ := s
            simp only at c0 c1 c2 c3 k0 k1 k2 h1 h2 hoz hrz hsn hsplit
            have hbn := bounds_i64 k1
            have hbx : 0 ≤ x ∧ x < 4294967296 := by have := bounds_u32 k2; omega
            obtain ⟨p, hp1⟩ : ∃ p, (if n < 0 then 0 else n) = p := ⟨_, rfl⟩
            have hp2 : (if 32 < p then 32 else p) = ((clampN n : Nat) : Int) := by rw [← hp1]; exact clamp_eq n
            have hcl : clampN ((clampN n : Nat) : Int) = clampN n := by
              have := clamp_le n
              generalize clampN n = N at *
              unfold clampN
              rw [if_neg (by omega), if_neg (by omega)]
              omega
            have hcle := clamp_le n
            clear k0 k1 k2 hrz c0 c3
            have hnl := num_length (clampN n) x
            have hval : val (((bitsOf ys).drop (all (ss.take i)).length).take (clampN n)) = val (num x (clampN n)) := by
              rw [Hpad.out, pad, hsplit, List.append_assoc, List.drop_left, List.append_assoc, List.take_append_of_le_length (by omega), List.take_of_length_le (by omega)]
            have hle : (all (ss.take i)).length + clampN n ≤ 8 * ys.length := by
              have : (all ss).length = (all (ss.take i)).length + ((num x (clampN n)).length + (all (ss.drop (i + 1))).length) := by rw [hsplit]; simp
              omega
            have hlen2 : (all (ss.take (i + 1))).length = (all (ss.take i)).length + clampN n := by rw [hsn]; simp [hnl]
            have Hval := Lib.hid hval
            have Hcl := Lib.hid hcl
            have Hlen2 := Lib.hid hlen2
            have hbit := num_bit (clampN n) x
            clear hsn hsplit hval hcl hlen2
            generalize all (ss.take i) = m at *
            have Hnl := Lib.hid hnl
            have hnl32 : (num x (clampN n)).length ≤ 32 := by omega
            clear hnl
            have g1 := fun W (hR : Rd W w3.heap.size g vr ys m.length) => get_ok w3.heap.size g vr ys m.length (clampN n) W hR hbo (by omega) hcle hle
            rw [Hval.out] at g1
            have G1 := Lib.hid g1
            clear g1 Hval
            have hbw : b < w.heap.size := hbl
            have G2 := Lib.hid (fun W => number_any x ((clampN n : Nat) : Int) W hbx (by omega))
            rw [Hcl.out] at G2
            go_wp2_with fail
            refine (G1.out _ R5).mono ?_
            rintro e w6 ⟨rfl, R6, t6⟩
            have t6b : Below w.heap.size wr w6 := t6.toBelow b5.size fun b hb h => by omega
            have t6c : Below w3.heap.size wr w6 := t6.toBelow b5'.size fun b hb h => by omega
            have d2 : w6.cell? ⟨b, off + i * 4 + 2, none⟩ = some (.int .u32 x) := (t6b.cell (p := ⟨b, off + i * 4 + 2, none⟩) hbl).trans c2
            clear c1 c2
            generalize num x (clampN n) = L at *
            generalize clampN n = N at *
            have b6 := b5.trans t6b
            have b6' := b5'.trans t6c
            go_wp2_with fail
            refine (G2.out _).mono ?_
            rintro e w7 ⟨vn, rfl, own7, hb7⟩
            obtain ⟨A7, c7, rfl, _, _, hr7⟩ := own7.opened
            have R7 := R6.below hb7
            go_wp2_with fail
            refine (value_any A7 L c7 w7 hnl32 hbit hr7).mono ?_
            rintro e w8 ⟨rfl, rfl⟩
            go_wp2_with fail
            go_roundw
            case rel => exact ⟨i + 1, by omega, by go_num, by rw [Hlen2.out]; exact R7, b6.trans (hb7.mono b6.size), b6'.trans (hb7.mono b6'.size)⟩
            case measure => simp [intOf] <;> omega
          · obtain rfl : i = ss.length := by omega
            rw [List.take_of_length_le (Nat.le_refl _)] at R5
            have hd : decide (8 * (ys.length : Int) - ((all ss).length : Int) < 8) = true := decide_eq_true (by omega)
            go_wp2_with fail
            refine (left_any _ _ _ _ _ _ R5 (by omega)).mono ?_
            rintro e w6 ⟨rfl, hb6⟩
            go_wp2_with fail
            refine (awake_any _).mono ?_
            rintro e w7 ⟨rfl, hb7⟩
            go_wp2_with fail
            go_ret
            have b6 := b5.trans (hb6.mono b5.size)
            exact ⟨rfl, b6.trans (hb7.mono b6.size)⟩
end Go.Proofs.Ytpofdlcadobdoaa.BitsBack
