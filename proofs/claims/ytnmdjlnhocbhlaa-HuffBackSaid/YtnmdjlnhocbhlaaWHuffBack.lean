/-
  HuffBack: the walk: what is written by codes is read as the same symbols.
-/
import Derived.Test.YtnmdjlnhocbhlaaHufK
import Derived.Test.YtnmdjlnhocbhlaaApt
import Derived.Test.YtnmdjlnhocbhlaaWHuffReads
namespace Go.Proofs.Ytnmdjlnhocbhlaa.HuffBack
open Go.ChangeShapes Go.WideShapes Go.ChangeAt Go.RowKit Go.Proofs.Ytnmdjlnhocbhlaa.Kit Go.Proofs.Ytnmdjlnhocbhlaa.Bits Go.Proofs.Ytnmdjlnhocbhlaa.Huf

set_option maxRecDepth 100000 in
set_option maxHeartbeats 3200000 in
theorem asleep (A : Option Addr) (l : List Int) (c : Nat) (A2 : Option Addr) (sy : List Int) (c2 : Nat) (w : World) (hc : l.length ≤ c) (hm : c ≤ maxLen) (ho : Octets l) (hr : Holds w w.heap.size .u8 A l)
    (hno : 300 < l.length ∨ 100 < sy.length ∨ mayB l = false) :
    Calls Try.prog 5 #[.slice A l.length c, .slice A2 sy.length c2] w fun e w' => e = .returned (.bool true) ∧ Below w.heap.size w w' := by
  have g3 := rmay_any A l c w ho hc hm hr
  by_cases h1 : 300 < l.length
  · have d1 : decide ((300 : Int) < (l.length : Int)) = true := decide_eq_true (by omega)
    clear g3 hno
    go_enter Try.func5, Try.ntmps5
    go_wp2_with fail
    refine (awake9_any _).mono ?_
    rintro e w1 ⟨rfl, hb⟩
    go_wp2_with fail
    go_ret
    exact ⟨rfl, hb⟩
  · have d1 : decide ((300 : Int) < (l.length : Int)) = false := decide_eq_false (by omega)
    by_cases h2 : 100 < sy.length
    · have d2 : decide ((100 : Int) < (sy.length : Int)) = true := decide_eq_true (by omega)
      clear g3 hno
      go_enter Try.func5, Try.ntmps5
      go_wp2_with fail
      refine (awake9_any _).mono ?_
      rintro e w1 ⟨rfl, hb⟩
      go_wp2_with fail
      go_ret
      exact ⟨rfl, hb⟩
    · have d2 : decide ((100 : Int) < (sy.length : Int)) = false := decide_eq_false (by omega)
      rw [show mayB l = false by rcases hno with h | h | h <;> first | exact h | omega] at g3
      have G := Lib.hid g3
      clear g3 hno
      go_enter Try.func5, Try.ntmps5
      go_wp2_with (go_at_call 10; refine G.out.mono ?_; rintro e w1 ⟨rfl, rfl⟩)
      refine (awake9_any _).mono ?_
      rintro e w1 ⟨rfl, hb⟩
      go_wp2_with fail
      go_ret
      exact ⟨rfl, hb⟩

theorem wr_below {w w' : World} {B g : Nat} {v : Value} {m : List Int} (W : Wr w B g v m) (hb : Below w.heap.size w w') : Wr w' B g v m := ⟨W.blk.below hb W.blk.lt, W.own.below hb, W.bit⟩

theorem elemInt : IntElem Try.prog 46 3 .i64 8 := ⟨Try.underlying46, by kernel_rfl, by omega⟩

set_option maxRecDepth 100000 in
set_option maxHeartbeats 3200000 in
theorem backs (A : Option Addr) (l : List Int) (c : Nat) (A2 : Option Addr) (sy : List Int) (c2 : Nat) (w : World) (hc : l.length ≤ c) (hm : c ≤ maxLen) (ho : Octets l) (hr : Holds w w.heap.size .u8 A l)
    (hos : ∀ n ∈ sy, 0 ≤ n ∧ n ≤ 65535) (hr2 : Holds w w.heap.size .u16 A2 sy) (h300 : l.length ≤ 300) (h100 : sy.length ≤ 100) (hM : mayB l = true) :
    Calls Try.prog 5 #[.slice A l.length c, .slice A2 sy.length c2] w fun e w' => e = .returned (.bool true) ∧ Below w.heap.size w w' := by
  have d1 : decide ((300 : Int) < (l.length : Int)) = false := decide_eq_false (by omega)
  have d2 : decide ((100 : Int) < (sy.length : Int)) = false := decide_eq_false (by omega)
  have g3 := rmay_any A l c w ho hc hm hr
  rw [hM] at g3
  have G := Lib.hid g3
  have HM := Lib.hid hM
  have h15 := (may_yes hM).2
  clear g3 hM
  go_enter Try.func5, Try.ntmps5
  go_wp2_with (go_at_call 10; refine G.out.mono ?_; rintro e w0 ⟨rfl, rfl⟩)
  refine (codes_yes A l c w ho hc hm hr HM.out).mono ?_
  rintro e w1 ⟨v1, rfl, own1, b1⟩
  go_wp2_with fail
  refine (new_yes A l c w1 ho hc hm ((hr.below b1).more b1.size) HM.out).mono ?_
  rintro e w2 ⟨gt, vt, rfl, hgt, tb2, b2⟩
  have b12 := b1.trans (b2.mono b1.size)
  have own2 := own1.below b2
  obtain ⟨A1, c1, rfl, _, _, _⟩ := own2.opened
  rw [codes_length]
  clear own1
  go_wp2_with fail
  refine (new_wr w2).mono ?_
  rintro e w3 ⟨rfl, W3, b3⟩
  go_wp2_with fail
  have ownE : Own (w3.alloc (.cells #[] 3)) w2.heap.size 3 .i64 _ [] := Own.empty w3 3 .i64 b3.size
  have W4 : Wr (w3.alloc (.cells #[] 3)) w2.heap.size w2.heap.size (.slice none 0 0) (allb l (keep l (sy.take 0))) := ⟨W3.blk.alloc _, W3.own.alloc _, W3.bit⟩
  have b4 : Below w2.heap.size w2 (w3.alloc (.cells #[] 3)) := b3.alloc b3.size _
  go_loopw [10, 11] (fun vw s wr => ∃ (i : Nat) (v : Value), i ≤ sy.length ∧ s = .int .i64 i ∧ Wr wr w2.heap.size w2.heap.size v (allb l (keep l (sy.take i))) ∧ Own wr w2.heap.size 3 .i64 vw (keep l (sy.take i)) ∧ Below w2.heap.size w2 wr) (fun _ s _ => sy.length - (intOf s).toNat)
  case atStart => exact ⟨0, _, Nat.zero_le _, rfl, W4, ownE, b4⟩
  case round =>
    obtain ⟨i, v, hi, rfl, W5, own5, b5⟩ := hrel
    by_cases hlt : i < sy.length
    · obtain ⟨bz, oz, rfl, hbz, hcz⟩ := hr2 (by omega)
      have hbw : Below w.heap.size w wr := b12.trans (b5.mono b12.size)
      have ec := (hbw.cell (p := ⟨bz, oz + i, none⟩) hbz).trans (hcz i hlt)
      have hg : sy.getD i 0 = sy[i] := by simp [List.getD, hlt]
      rw [hg] at ec
      have hkn := keep_next (l := l) i hlt
      have hsb := hos sy[i] (List.getElem_mem hlt)
      have hkl := keep_length l (sy.take i)
      have hkt : (sy.take i).length ≤ 100 := Nat.le_trans (List.length_take_le _ _) (by omega)
      have hal := allb_length h15 (keep l (sy.take i))
      clear hg hcz
      generalize sy[i] = s at *
      have hil : (i : Int) < (sy.length : Int) := by omega
      have hi0 : (0 : Int) ≤ (i : Int) := by omega
      by_cases hsl : s < l.length
      · have ds : decide ((l.length : Int) ≤ s) = false := decide_eq_false (by omega)
        obtain ⟨sn, rfl⟩ := Int.eq_ofNat_of_zero_le hsb.1
        have hsn : sn < l.length := by omega
        rw [Int.toNat_natCast] at hkn
        obtain ⟨bl, ol, rfl, hbl, hcl⟩ := hr (by omega)
        have el := (hbw.cell (p := ⟨bl, ol + sn, none⟩) hbl).trans (hcl sn hsn)
        have hg : l.getD sn 0 = l[sn] := by simp [List.getD, hsn]
        have hx := ho l[sn] (List.getElem_mem hsn)
        rw [← hg] at hx
        clear hg hcl
        by_cases hz : l.getD sn 0 = 0
        · rw [if_neg (fun h => h.2 hz)] at hkn
          rw [hz] at el
          have Hkn := Lib.hid hkn
          clear hz hx hkn hal hkl
          go_wp2_with fail
          go_roundw
          case rel => exact ⟨i + 1, v, by omega, by go_num, by rw [Hkn.out]; exact W5, by rw [Hkn.out]; exact own5, b5⟩
          case measure => simp [intOf] <;> omega
        · rw [if_pos ⟨hsl, hz⟩] at hkn
          obtain ⟨n, hn⟩ := Int.eq_ofNat_of_zero_le hx.1
          have hn0 : 0 < n := by omega
          obtain ⟨hce, hc0, hc1, hn15⟩ := code_eq HM.out ho sn hsn n hn0 hn
          have hle := fc_cnt_le HM.out ho n hn0 hn15
          have hp : (2 : Int) ^ n ≤ 2 ^ 15 := p2_le hn15
          rw [show (2 : Int) ^ 15 = 32768 by decide] at hp
          have hcb : 0 ≤ code l sn ∧ code l sn < 32768 := by omega
          obtain ⟨bc, oc, rfl, hbc, hcc⟩ := (own2.below b5).holds (by rw [codes_length]; omega)
          have ecc := hcc sn (by rw [codes_length]; exact hsn)
          rw [codes_get l sn hsn] at ecc
          have hba : bitsAt l sn = (num (code l sn) n).reverse := by unfold bitsAt; rw [hn, Int.toNat_natCast]
          have hal2 : allb l (keep l (sy.take (i + 1))) = allb l (keep l (sy.take i)) ++ (num (code l sn) n).reverse := by
            rw [hkn, allb_append, allb, allb, List.append_nil, Int.toNat_natCast, hba]
          rw [hn] at el
          have dz : ((n : Int) == 0) = false := by rw [beq_eq_false_iff_ne]; omega
          have hw1 : IntKind.u32.wrap (code l sn) = code l sn := by rw [IntKind.wrap_u32]; omega
          have hw2 : IntKind.i64.wrap (n : Int) = (n : Int) := IntWalk.i64_in _ (by omega)
          have hml : (allb l (keep l (sy.take i))).length ≤ 1500 := by omega
          have hkl2 : (keep l (sy.take i)).length ≤ 100 := by omega
          have Hkn := Lib.hid hkn
          have Hal2 := Lib.hid hal2
          have HW := Lib.hid (And.intro hw1 hw2)
          clear hx hz hn hce hc0 hc1 hle hp hcc hba hkn hal2 hw1 hw2 hal hkl hkt
          generalize code l sn = x at *
          generalize allb l (keep l (sy.take i)) = m at *
          generalize keep l (sy.take i) = ks at *
          have hsn0 : (0 : Int) ≤ (sn : Int) := by omega
          go_wp2_with fail
          go_still_tail 11, (by kernel_rfl)
          change wpList _ _ _ _ _ wr.drew
          have W6 : Wr wr.drew w2.heap.size w2.heap.size v m := ⟨W5.blk, W5.own, W5.bit⟩
          have own6 : Own wr.drew w2.heap.size 3 .i64 u10 ks := own5.drewN 1
          have b6 : Below w2.heap.size w2 wr.drew := below_draws b5 1
          clear W5 own5 b5 ec el ecc hbw
          generalize wr.drew = w6 at *
          go_wp2_with fail
          rw [HW.out.1, HW.out.2]
          refine (code_any w2.heap.size w2.heap.size x (n : Int) n m v w6 (by omega) (by omega) (clamp_nat n (by omega)) W6 b6.size (by omega)).mono ?_
          rintro e w7 ⟨rfl, v7, W7, t7, n7⟩
          have ap6 := own6.apart_type W6.own (by decide)
          have own7 := own6.out t7 (fun b hb hf => by
            rcases hf with rfl | hf
            · exact own6.ne_block W6.blk (by decide) hb
            · exact ap6 b hb hf)
          have b7 := b6.trans (t7.toBelow b6.size fun _ h => foot_not W6 (Nat.le_refl _) h)
          have hs7 := b7.size
          have ap7 := W7.own.apart_type own7 (by decide)
          clear own6 W6 b6 t7
          go_wp2_with (at_builtin; refine wpList_append_one (z := (sn : Int)) _ rfl _ _ _ rfl elemInt own7 rfl rfl (by omega) hs7 ?_; intro v8 w8 own8 hg8 hb8)
          have W8 : Wr w8 w2.heap.size w2.heap.size v7 (m ++ (num x n).reverse) := ⟨(W7.blk.alloc _).grown hg8 (own7.ne_block W7.blk (by decide)), (W7.own.alloc _).kept hg8 (by
            cases hv : v7.ownBlock with
            | none => exact .inl rfl
            | some b => exact .inr fun he => ap7 b hv he.symm), W7.bit⟩
          go_roundw
          case rel => exact ⟨i + 1, v7, by omega, by go_num, by rw [Hal2.out]; exact W8, by rw [Hkn.out]; exact own8, b7.trans hb8⟩
          case measure => simp [intOf] <;> omega
      · have ds : decide ((l.length : Int) ≤ s) = true := decide_eq_true (by omega)
        rw [if_neg (fun h => hsl h.1)] at hkn
        have Hkn := Lib.hid hkn
        clear hkn hal hkl
        go_wp2_with fail
        go_roundw
        case rel => exact ⟨i + 1, v, by omega, by go_num, by rw [Hkn.out]; exact W5, by rw [Hkn.out]; exact own5, b5⟩
        case measure => simp [intOf] <;> omega
    · obtain rfl : i = sy.length := by omega
      rw [List.take_of_length_le (Nat.le_refl _)] at W5 own5
      have hmem := fun s (hs : s ∈ keep l sy) => keep_mem hs
      have hkl := keep_length l sy
      have hal := allb_length h15 (keep l sy)
      have hkb := allb_bit l (keep l sy)
      have hkk : ∀ s ∈ keep l sy, 0 ≤ s ∧ s < l.length ∧ l.getD s.toNat 0 ≠ 0 := fun s hs => ⟨(hos s (hmem s hs).1).1, (hmem s hs).2⟩
      have hml : (allb l (keep l sy)).length ≤ 1500 := by omega
      have Hkk := Lib.hid hkk
      clear hmem hal hkk
      obtain ⟨Aw, cw, rfl, _, _, _⟩ := own5.opened
      have hbw : Below w.heap.size w wr := b12.trans (b5.mono b12.size)
      go_wp2_with fail
      refine (wbytes_any _ _ _ _ _ W5 (by omega)).mono ?_
      rintro e w6 ⟨vb, rfl, own6, b6⟩
      have hbl := bytesOf_length (((allb l (keep l sy)).length + 7) / 8) (allb l (keep l sy))
      have hbo := bytesOf_octets (((allb l (keep l sy)).length + 7) / 8) hkb
      have hpad := bits_bytes_pad hkb
      generalize bytesOf (((allb l (keep l sy)).length + 7) / 8) (allb l (keep l sy)) = ys at *
      obtain ⟨A6, c6, rfl, _, _, hr6⟩ := own6.opened
      have Hpad := Lib.hid hpad
      have hyl : ys.length ≤ 100000 := by omega
      clear hpad hbl
      have W6 := wr_below W5 b6
      have own6' := own5.below b6
      have bw6 := hbw.trans (b6.mono hbw.size)
      have b26 := b5.trans (b6.mono b5.size)
      clear W5 own5
      go_wp2_with fail
      refine (newr_any A6 ys c6 w6 (by omega) hr6).mono ?_
      rintro e w7 ⟨g, vr, rfl, hg, R7, b7⟩
      have bw7 := bw6.trans (b7.mono bw6.size)
      have b27 := b26.trans (b7.mono b26.size)
      have hs6 := b26.size
      have hsw := b12.size
      go_wp2_with fail
      go_loopw [14] (fun s wr => ∃ j : Nat, j ≤ (keep l sy).length ∧ s = .int .i64 j ∧ Rd wr w6.heap.size g vr ys (allb l ((keep l sy).take j)).length ∧ TurnsIn (· = g) w7 wr) (fun s _ => (keep l sy).length - (intOf s).toNat)
      case atStart => exact ⟨0, Nat.zero_le _, rfl, R7, TurnsIn.refl _ _⟩
      case round =>
        obtain ⟨j, hj, rfl, R8, t8⟩ := hrel
        have bw8 : Below w.heap.size w wr := bw7.trans (t8.toBelow bw7.size fun b hb he => by omega)
        by_cases hlt : j < (keep l sy).length
        · obtain ⟨n, ht, hln⟩ := told_at HM.out ho (keep l sy) (List.replicate ((8 - (allb l (keep l sy)).length % 8) % 8) 0) (Bit.zeros _) j hlt Hkk.out
          have hgt2 := tb2.blk.lt
          have hvt := tb2.own.lt
          have Gn := next_any w6.heap.size g gt _ vr vt ys l (allb l ((keep l sy).take j)).length wr h300 HM.out ho R8 hbo (by omega) ((tb2.below b27).out t8 (by omega) (fun b hb he => by have := hvt b hb; omega))
          rw [Hpad.out, pad, ht] at Gn
          have hn9 : ∀ b, (Value.slice Aw (keep l sy).length cw).ownBlock = some b → ¬ b = g := fun b hb he => by have := own6'.lt b hb; omega
          have own7 := own6'.below b7
          have Hln := Lib.hid hln
          clear ht hln tb2 hvt own6' W6 hr6 own6 R8
          go_wp2_with fail
          refine Gn.mono ?_
          rintro e w9 ⟨t9, h9⟩
          obtain ⟨rfl, R9⟩ := h9
          obtain ⟨bq, oq, rfl, hbq, hcq⟩ := (own7.out (t8.trans t9) hn9).holds (by omega)
          have ecq := hcq j hlt
          have hg9 : (keep l sy).getD j 0 = (keep l sy)[j] := by simp [List.getD, hlt]
          rw [hg9] at ecq
          have HR9 := Lib.hid R9
          have HT9 := Lib.hid (t8.trans t9)
          have hjl : (j : Int) < ((keep l sy).length : Int) := by omega
          have hj0 : (0 : Int) ≤ (j : Int) := by omega
          clear hcq hg9 R9 t8 t9 Gn own7 hn9
          generalize (keep l sy)[j] = z at *
          go_wp2_with fail
          go_roundw
          case rel => exact ⟨j + 1, by omega, by go_num, by rw [Hln.out]; exact HR9.out, HT9.out⟩
          case measure => simp [intOf] <;> omega
        · obtain rfl : j = (keep l sy).length := by omega
          rw [List.take_of_length_le (Nat.le_refl _)] at R8
          have W7 := wr_below W6 b7
          have hvl := W6.own.lt
          have W8 : Wr wr w2.heap.size w2.heap.size v (allb l (keep l sy)) := ⟨W7.blk.out t8 (show ¬ w2.heap.size = g by have := W6.blk.lt; omega), W7.own.out t8 (fun b hb he => by have := hvl b hb; omega), W7.bit⟩
          clear W6 W7 hvl own6' own6 hr6 tb2
          go_wp2_with fail
          refine (at_any _ g vr ys _ wr R8).mono ?_
          rintro e w9 ⟨rfl, rfl⟩
          go_wp2_with fail
          refine (len_any _ _ _ _ _ W8 (by omega)).mono ?_
          rintro e w9 ⟨rfl, b9⟩
          have bw9 := bw8.trans (b9.mono bw8.size)
          go_wp2_with fail
          refine (awake9_any _).mono ?_
          rintro e w10 ⟨rfl, b10⟩
          go_wp2_with fail
          go_ret
          exact ⟨rfl, bw9.trans (b10.mono bw9.size)⟩

theorem walk (A : Option Addr) (l : List Int) (c : Nat) (A2 : Option Addr) (sy : List Int) (c2 : Nat) (w : World) (hc : l.length ≤ c) (hm : c ≤ maxLen) (ho : Octets l) (hr : Holds w w.heap.size .u8 A l)
    (_ : sy.length ≤ c2) (_ : c2 ≤ maxLen) (hos : ∀ n ∈ sy, (Lit.int IntKind.u16 n).wf = true) (hr2 : Holds w w.heap.size .u16 A2 sy) :
    Calls Try.prog 5 #[.slice A l.length c, .slice A2 sy.length c2] w fun e w' => e = .returned (.bool true) ∧ Below w.heap.size w w' := by
  by_cases h1 : 300 < l.length
  · exact asleep A l c A2 sy c2 w hc hm ho hr (.inl h1)
  by_cases h2 : 100 < sy.length
  · exact asleep A l c A2 sy c2 w hc hm ho hr (.inr (.inl h2))
  cases hM : mayB l with
  | false => exact asleep A l c A2 sy c2 w hc hm ho hr (.inr (.inr hM))
  | true => exact backs A l c A2 sy c2 w hc hm ho hr (fun n hn => bounds_u16 (hos n hn)) hr2 (by omega) (by omega) hM
end Go.Proofs.Ytnmdjlnhocbhlaa.HuffBack
