/-
  BitsReads: the walk: whatever is asked for is answered as the document says.
-/
import Derived.Test.YtpofdlcadobdoaaBitX
import Derived.Deep.LoopGhost
import Derived.Deep.CutRange
import Derived.Deep.CutBlock
namespace Go.Proofs.Ytpofdlcadobdoaa.BitsReads
open Go.ChangeShapes Go.WideShapes Go.ChangeAt Go.RowKit Go.Proofs.Ytpofdlcadobdoaa.Kit Go.Proofs.Ytpofdlcadobdoaa.Bits

/-- The reader stands at bit p of the bytes bs; the row mv has their bits. -/
structure St (w wr : World) (g : Nat) (v mv : Value) (bs : List Int) (p : Nat) : Prop where
  rd : Rd wr w.heap.size g v bs p
  own : Own wr w.heap.size 5 .u8 mv (bitsOf bs)
  below : Below w.heap.size w wr

/-- Behind a call of the reader's. -/
theorem St.step {w wr w2 : World} {g : Nat} {v mv : Value} {bs : List Int} {p q : Nat} (h : St w wr g v mv bs p) (hg : w.heap.size ≤ g) (R2 : Rd w2 w.heap.size g v bs q) (t2 : TurnsIn (· = g) wr w2) : St w w2 g v mv bs q :=
  ⟨R2, h.own.out t2 (fun b hb he => h.own.ne_block h.rd.blk (by decide) (he ▸ hb)), h.below.trans (t2.toBelow h.below.size fun b hb he => by omega)⟩

theorem St.later {w w3 w4 : World} {g : Nat} {v mv : Value} {bs : List Int} {p : Nat} (h : St w w3 g v mv bs p) (hb4 : Below w3.heap.size w3 w4) : St w w4 g v mv bs p :=
  ⟨h.rd.below hb4, h.own.below hb4, h.below.trans (hb4.mono h.below.size)⟩

theorem St.alloc {w w3 : World} {g : Nat} {v mv : Value} {bs : List Int} {p : Nat} (h : St w w3 g v mv bs p) (o : Obj) : St w (w3.alloc o) g v mv bs p := h.later ((Below.refl _ _).alloc (Nat.le_refl _) o)

set_option maxRecDepth 100000 in
set_option maxHeartbeats 25600000 in
theorem walk (Ab : Option Addr) (bs : List Int) (cb : Nat) (A : Option Addr) (ss : List Stp) (c : Nat) (w : World) (hlb : bs.length ≤ cb) (hmb : cb ≤ maxLen) (hob : Octets bs) (hrb : Holds w w.heap.size .u8 Ab bs)
    (hc : ss.length ≤ c) (hm : c ≤ maxLen) (hr : HoldsE (StpIn .i64 .i64 .u32 w w.heap.size) 4 w w.heap.size A ss) :
    Calls Try.prog 4 #[.slice Ab bs.length cb, .slice A ss.length c] w fun e w' => e = .returned (.bool true) ∧ Below w.heap.size w w' := by
  have G0 := Lib.hid (great_any A ss c w hc hm hr)
  unfold maxLen at hmb
  cases hgr : greatB ss with
  | true =>
    rw [hgr] at G0
    clear hgr
    go_enter Try.func4, Try.ntmps4
    go_wp2_with fail
    refine G0.out.mono ?_
    rintro e w1 ⟨rfl, rfl⟩
    go_wp2_with fail
    refine (awake_any _).mono ?_
    rintro e w1 ⟨rfl, hb⟩
    go_wp2_with fail
    go_ret
    exact ⟨rfl, hb⟩
  | false =>
    obtain ⟨hlen, hall⟩ := great_yes hgr
    rw [hgr] at G0
    clear hgr
    by_cases h5 : bs.length ≤ 500
    · have d5 : decide ((500 : Int) < (bs.length : Int)) = false := decide_eq_false (by omega)
      have hbl : (bitsOf bs).length ≤ 4000 := by rw [bitsOf_length]; omega
      have hbl8 := bitsOf_length bs
      have Hbl8 := Lib.hid hbl8
      clear hbl8
      go_enter Try.func4, Try.ntmps4
      go_wp2_with fail
      refine G0.out.mono ?_
      rintro e w1 ⟨rfl, rfl⟩
      go_wp2_with fail
      refine (newr_any Ab bs cb w (by omega) hrb).mono ?_
      rintro e w1 ⟨g, v, rfl, hg, R1, b1⟩
      go_wp2_with fail
      refine (of_any Ab bs cb w1 (by omega) hob ((hrb.below b1).more b1.size)).mono ?_
      rintro e w2 ⟨mv, rfl, own2, b2⟩
      obtain ⟨Am, cm, rfl, hmc, hcm, hrm⟩ := own2.opened
      have st0 : St w w2 g v (.slice Am (bitsOf bs).length cm) bs 0 := ⟨R1.below b2, own2.mono b1.size, b1.trans (b2.mono b1.size)⟩
      unfold maxLen at hcm
      clear own2 hrm R1 b1 b2
      go_wp2_with fail
      go_loopg [7, 8] ss.length (fun k at_ s wr => ∃ i p : Nat, k = ss.length - i ∧ i ≤ ss.length ∧ s = .int .i64 i ∧ at_ = .int .i64 (p : Int) ∧ St w wr g v (.slice Am (bitsOf bs).length cm) bs p)
      case atStart => exact ⟨0, 0, rfl, Nat.zero_le _, rfl, rfl, st0⟩
      case round =>
        obtain ⟨i, p, hgk, hi, rfl, rfl, st⟩ := hrel
        have hp := st.rd.le
        by_cases hlt : i < ss.length
        · have hrz0 := stepAt (steps_below hr st.below) hlt
          have hzl := hall _ (List.getElem_mem hlt)
          generalize ss[i] = s at *
          obtain ⟨a, n, x, Az, cz, zs⟩ := s
          obtain ⟨b, off, rfl, hbb, c0, c1, c2, c3, k0, k1, k2, h1, h2, hoz, hrz⟩ := hrz0
          simp only at c0 c1 c2 c3 k0 k1 k2 h1 h2 hoz hrz hzl
          have hbn := bounds_i64 k1
          clear k0 k1 k2 hr
          have blk := Block.new wr 30 #[.int .i64 a, .int .i64 n, .int .u32 x, .slice Az zs.length cz]
          have q0 : (wr.alloc (.cells #[.int .i64 a, .int .i64 n, .int .u32 x, .slice Az zs.length cz] 30)).cell? ⟨wr.heap.size, 0, none⟩ = some (.int .i64 a) := blk.cell 0
          have q1 : (wr.alloc (.cells #[.int .i64 a, .int .i64 n, .int .u32 x, .slice Az zs.length cz] 30)).cell? ⟨wr.heap.size, 1, none⟩ = some (.int .i64 n) := blk.cell 1
          have stA := st.alloc (.cells #[.int .i64 a, .int .i64 n, .int .u32 x, .slice Az zs.length cz] 30)
          have hgw := st.rd.blk.lt
          have hln : bs.length ≤ 1000000 := by omega
          have HE2 : Hid (8 * (bs.length : Int) = ((bitsOf bs).length : Int)) := Lib.hid (by have := Hbl8.out; omega)
          have hp2 : p ≤ 4000 := by omega
          have hgs : ¬ wr.heap.size = g := by omega
          go_upto_block 2 with fail
          go_cut [7, 10, 11, 12, 13, 14, 15, 16, 17, 18] from 31 to 173 (fun s7 _ _ _ _ _ _ _ _ _ wc => ∃ q : Nat, s7 = .int .i64 (q : Int) ∧ St w wc g v (.slice Am (bitsOf bs).length cm) bs q)
          case first =>
            by_cases a01 : a = 0 ∨ a = 1
            · by_cases hn1 : n < 0 ∨ 32 < n
              · rcases (show n < 0 ∨ (0 ≤ n ∧ 32 < n) by omega) with hn2 | hn2
                · have d0 : decide (n < 0) = true := decide_eq_true hn2
                  have Hn1 := Lib.hid hn1
                  clear hn1
                  rcases a01 with rfl | rfl
                  all_goals
                    as_aux_lemma =>
                      go_wp2_with fail
                      refine (get_arg w.heap.size g v bs p n _ Hn1.out).mono ?_
                      rintro e w2 ⟨rfl, rfl⟩
                      go_wp2_with fail
                      go_meet
                      exact ⟨p, rfl, stA⟩
                · have d0 : decide (n < 0) = false := decide_eq_false (by omega)
                  have d1 : decide (32 < n) = true := decide_eq_true hn2.2
                  have Hn1 := Lib.hid hn1
                  clear hn1
                  rcases a01 with rfl | rfl
                  all_goals
                    as_aux_lemma =>
                      go_wp2_with fail
                      refine (get_arg w.heap.size g v bs p n _ Hn1.out).mono ?_
                      rintro e w2 ⟨rfl, rfl⟩
                      go_wp2_with fail
                      go_meet
                      exact ⟨p, rfl, stA⟩
              · obtain ⟨N, rfl⟩ : ∃ N : Nat, n = (N : Int) := ⟨n.toNat, by omega⟩
                have d0 : decide ((N : Int) < 0) = false := decide_eq_false (by omega)
                have d1 : decide (32 < (N : Int)) = false := decide_eq_false (by omega)
                by_cases hsh : 8 * bs.length < p + N
                · have d2 : decide (((bitsOf bs).length : Int) - (p : Int) < (N : Int)) = true := decide_eq_true (by have := HE2.out; omega)
                  rcases a01 with rfl | rfl
                  all_goals
                    as_aux_lemma =>
                      go_wp2_with fail
                      refine (get_short w.heap.size g v bs p N _ stA.rd hln (by omega) hsh).mono ?_
                      rintro e w2 ⟨rfl, hb2⟩
                      have st2 := stA.later hb2
                      have q2 : w2.cell? ⟨wr.heap.size, 1, none⟩ = some (.int .i64 (N : Int)) := (blk.below hb2 blk.lt).cell 1
                      clear q0 q1
                      go_wp2_with fail
                      go_meet
                      exact ⟨p, rfl, st2⟩
                · have d2 : decide (((bitsOf bs).length : Int) - (p : Int) < (N : Int)) = false := decide_eq_false (by have := HE2.out; omega)
                  have hpm : p + N ≤ (bitsOf bs).length := by have := HE2.out; omega
                  have hN : N ≤ 32 := by omega
                  have hbit := ((bitsOf_bit bs).drop p).take N
                  have hvl : (((bitsOf bs).drop p).take N).length = N := by simp; omega
                  have hpc : (p : Int) + (N : Int) ≤ (cm : Int) := by omega
                  have hp8 : p + N ≤ 8 * bs.length := by omega
                  rcases a01 with rfl | rfl
                  all_goals
                    as_aux_lemma =>
                      go_wp2_with fail
                      refine (get_ok w.heap.size g v bs p N _ stA.rd hob hln hN hp8).mono ?_
                      rintro e w2 ⟨rfl, R2, t2⟩
                      have st2 := stA.step hg R2 t2
                      have q2 : w2.cell? ⟨wr.heap.size, 1, none⟩ = some (.int .i64 (N : Int)) := (blk.out t2 hgs).cell 1
                      clear q0 q1
                      obtain ⟨_, _, hh, _, _, hrow⟩ := st2.own.opened
                      injection hh with hh1 hh2 hh3
                      subst hh1 hh3
                      clear hh2
                      have Hvl := Lib.hid hvl
                      clear hvl
                      rcases Nat.eq_zero_or_pos N with h0 | h0
                      · have hv := fun AA cc => value_any AA (((bitsOf bs).drop p).take N) cc w2 (by rw [Hvl.out]; exact hN) hbit (fun hx => absurd hx (by rw [Hvl.out]; omega))
                        rw [Hvl.out] at hv
                        have HV := Lib.hid hv
                        have H0 := Lib.hid h0
                        clear hv hrow h0
                        generalize val (((bitsOf bs).drop p).take N) = z at *
                        by_cases hcp : cm = p
                        case' pos =>
                          subst hcp
                          have HW := HV.out
                          rw [H0.out] at HW
                          have HX := Lib.hid HW
                          clear HW
                        case' neg => have HX := HV
                        all_goals
                          go_wp2_with fail
                          refine (HX.out _ _).mono ?_
                          rintro e w3 ⟨rfl, rfl⟩
                          go_wp2_with fail
                          go_meet
                          exact ⟨_, congrArg (Value.int .i64) (by omega), st2⟩
                      · have hcp : ¬ cm = p := by omega
                        obtain ⟨bm, om, rfl, hbm, hcs⟩ := hrow (by omega)
                        have hsub := hrow.sub p N hpm
                        have hv := fun cc => value_any (some ⟨bm, om + p, none⟩) _ cc w2 (by rw [Hvl.out]; exact hN) hbit hsub
                        rw [Hvl.out] at hv
                        have HV := Lib.hid hv
                        clear hv hcs hsub hrow
                        generalize val (((bitsOf bs).drop p).take N) = z at *
                        go_wp2_with fail
                        refine (HV.out _).mono ?_
                        rintro e w3 ⟨rfl, rfl⟩
                        go_wp2_with fail
                        go_meet
                        exact ⟨p + N, congrArg (Value.int .i64) (by omega), st2⟩
            · have n0 : (a == 0) = false := by rw [beq_eq_false_iff_ne]; omega
              have n1 : (a == 1) = false := by rw [beq_eq_false_iff_ne]; omega
              have e8 : ((p : Int) + 7) / 8 * 8 = (((p + 7) / 8 * 8 : Nat) : Int) := by omega
              have hP : (p + 7) / 8 * 8 ≤ 8 * bs.length := by omega
              have hP8 : (p + 7) / 8 * 8 % 8 = 0 := by omega
              by_cases a2 : a = 2
              · subst a2
                clear a01 n0 n1
                as_aux_lemma =>
                  go_wp2_with fail
                  refine (ralign_any w.heap.size g v bs p _ stA.rd hln).mono ?_
                  rintro e w2 ⟨rfl, R2, t2⟩
                  have st2 := stA.step hg R2 t2
                  have E8 := Lib.hid e8
                  clear q0 q1 e8 hP8
                  go_wp2_with fail
                  refine (whole_any (p : Int) w2 (by omega)).mono ?_
                  rintro e w3 ⟨rfl, rfl⟩
                  rw [E8.out]
                  generalize (p + 7) / 8 * 8 = P at *
                  go_wp2_with fail
                  go_meet
                  exact ⟨P, rfl, st2⟩
              · have n2 : (a == 2) = false := by rw [beq_eq_false_iff_ne]; omega
                by_cases a3 : a = 3
                · subst a3
                  clear a01 n0 n1 a2 n2
                  have E8 := Lib.hid e8
                  by_cases hn0 : n < 0
                  · have d0 : decide (n < 0) = true := decide_eq_true hn0
                    clear e8 hP8
                    as_aux_lemma =>
                      go_wp2_with fail
                      refine (rraw_arg w.heap.size g v bs p n _ stA.rd hln hn0).mono ?_
                      rintro e w2 ⟨rfl, R2, t2⟩
                      have st2 := (stA.step hg R2 t2).alloc (.cells #[] 5)
                      have q2 : (w2.alloc (.cells #[] 5)).cell? ⟨wr.heap.size, 1, none⟩ = some (.int .i64 n) := ((blk.out t2 hgs).alloc _).cell 1
                      clear q0 q1
                      have f1 : (convert 27 9 (.slice none 0 0)).run Try.prog (w2.alloc (.cells #[] 5)) = .ok (.string (strOfNums [])) (w2.alloc (.cells #[] 5)) := conv_any (w2.alloc (.cells #[] 5)) none [] 0 0 Holds.nil
                      have f2 : (convert 27 9 (.slice (some ⟨w2.heap.size, 0, none⟩) 0 0)).run Try.prog (w2.alloc (.cells #[] 5)) = .ok (.string (strOfNums [])) (w2.alloc (.cells #[] 5)) := conv_any (w2.alloc (.cells #[] 5)) (some ⟨w2.heap.size, 0, none⟩) [] 0 0 Holds.nil
                      go_wp2_with fail
                      refine (whole_any (p : Int) w2 (by omega)).mono ?_
                      rintro e w3 ⟨rfl, rfl⟩
                      rw [E8.out]
                      generalize (p + 7) / 8 * 8 = P at *
                      go_wp2_with fail
                      go_meet
                      exact ⟨P, rfl, st2⟩
                  · obtain ⟨N, rfl⟩ : ∃ N : Nat, n = (N : Int) := ⟨n.toNat, by omega⟩
                    have d0 : decide ((N : Int) < 0) = false := decide_eq_false (by omega)
                    by_cases hsh : bs.length < (p + 7) / 8 + N
                    · have d2 : decide ((((bitsOf bs).length : Int) - (((p + 7) / 8 * 8 : Nat) : Int)) / 8 < (N : Int)) = true := decide_eq_true (by have := HE2.out; omega)
                      have hPm : (((p + 7) / 8 * 8 : Nat) : Int) ≤ ((bitsOf bs).length : Int) := by have := HE2.out; omega
                      clear e8 hP8
                      as_aux_lemma =>
                        go_wp2_with fail
                        refine (rraw_short w.heap.size g v bs p N _ stA.rd hln hsh (by omega)).mono ?_
                        rintro e w2 ⟨rfl, R2, t2⟩
                        have st2 := (stA.step hg R2 t2).alloc (.cells #[] 5)
                        have q2 : (w2.alloc (.cells #[] 5)).cell? ⟨wr.heap.size, 1, none⟩ = some (.int .i64 (N : Int)) := ((blk.out t2 hgs).alloc _).cell 1
                        clear q0 q1 hsh
                        have f1 : (convert 27 9 (.slice none 0 0)).run Try.prog (w2.alloc (.cells #[] 5)) = .ok (.string (strOfNums [])) (w2.alloc (.cells #[] 5)) := conv_any (w2.alloc (.cells #[] 5)) none [] 0 0 Holds.nil
                        have f2 : (convert 27 9 (.slice (some ⟨w2.heap.size, 0, none⟩) 0 0)).run Try.prog (w2.alloc (.cells #[] 5)) = .ok (.string (strOfNums [])) (w2.alloc (.cells #[] 5)) := conv_any (w2.alloc (.cells #[] 5)) (some ⟨w2.heap.size, 0, none⟩) [] 0 0 Holds.nil
                        go_wp2_with fail
                        refine (whole_any (p : Int) w2 (by omega)).mono ?_
                        rintro e w3 ⟨rfl, rfl⟩
                        rw [E8.out]
                        generalize (p + 7) / 8 * 8 = P at *
                        go_wp2_with fail
                        go_meet
                        exact ⟨P, rfl, st2⟩
                    · have d2 : decide ((((bitsOf bs).length : Int) - (((p + 7) / 8 * 8 : Nat) : Int)) / 8 < (N : Int)) = false := decide_eq_false (by have := HE2.out; omega)
                      have hPm : (((p + 7) / 8 * 8 : Nat) : Int) ≤ ((bitsOf bs).length : Int) := by have := HE2.out; omega
                      have e9 : (((p + 7) / 8 * 8 : Nat) : Int) / 8 = (((p + 7) / 8 : Nat) : Int) := by omega
                      have hkN : (p + 7) / 8 + N ≤ bs.length := by omega
                      have hxl : ((bs.drop ((p + 7) / 8)).take N).length = N := by simp; omega
                      clear e8 hP8 hsh
                      as_aux_lemma =>
                        go_wp2_with fail
                        refine (rraw_ok w.heap.size g v bs p N _ stA.rd hln hkN).mono ?_
                        rintro e w2 ⟨u, rfl, own2, R2, t2⟩
                        have hsub0 := fun (W : World) (b0 o0 : Nat) (h : Holds W W.heap.size .u8 (some ⟨b0, o0, none⟩) bs) => h.sub ((p + 7) / 8) N hkN
                        generalize hxx : (bs.drop ((p + 7) / 8)).take N = xs at *
                        clear hxx
                        have st2' := stA.step hg R2 t2
                        have hs2 := st2'.below.size
                        obtain ⟨A2, c2', rfl, _, _, hr2⟩ := own2.opened
                        have hbW := st2'.below.alloc hs2 (.cells #[] 5)
                        have hrW := (hrb.below hbW).more hbW.size
                        have f1 := conv_any (w2.alloc (.cells #[] 5)) A2 _ c2' _ (hr2.below ((Below.refl w2.heap.size w2).alloc (Nat.le_refl _) (.cells #[] 5)))
                        have st2 := st2'.alloc (.cells #[] 5)
                        have q2 : (w2.alloc (.cells #[] 5)).cell? ⟨wr.heap.size, 1, none⟩ = some (.int .i64 (N : Int)) := ((blk.out t2 hgs).alloc _).cell 1
                        clear q0 q1 own2 hr2 st2'
                        have Hxl := Lib.hid hxl
                        clear hxl
                        generalize hkk : (p + 7) / 8 = k at *
                        have Hkk := Lib.hid hkk
                        clear hkk
                        rcases Nat.eq_zero_or_pos N with h0 | h0
                        · have f2 : ∀ (X : Option Addr) (Y : Nat), (convert 27 9 (.slice X N Y)).run Try.prog (w2.alloc (.cells #[] 5)) = .ok (.string (strOfNums xs)) (w2.alloc (.cells #[] 5)) := by
                            intro X Y
                            have := conv_any (w2.alloc (.cells #[] 5)) X xs Y 0 (fun hx => absurd hx (by rw [Hxl.out]; omega))
                            rwa [Hxl.out] at this
                          have H0 := Lib.hid h0
                          have hkN2 : (k : Int) + (N : Int) ≤ (cb : Int) := by omega
                          have hkN3 : k + N ≤ 500 := by omega
                          clear h0
                          generalize strOfNums xs = S at *
                          by_cases hck : cb = k
                          case' pos =>
                            subst hck
                            have f3 := f2
                            rw [H0.out] at f3
                          all_goals
                            go_wp2_with fail
                            refine (whole_any (p : Int) w2 (by omega)).mono ?_
                            rintro e w3 ⟨rfl, rfl⟩
                            rw [E8.out]
                            generalize hPP : _ * 8 = P at *
                            have HPP := Lib.hid hPP
                            clear hPP
                            go_wp2_with fail
                            go_meet
                            exact ⟨_, congrArg (Value.int .i64) (by omega), st2⟩
                        · have hck : ¬ cb = k := by omega
                          obtain ⟨b0, o0, rfl, hb0, hc0⟩ := hrW (by omega)
                          have hsub := hsub0 _ _ _ hrW
                          have f2 := conv_any (w2.alloc (.cells #[] 5)) (some ⟨b0, o0 + k, none⟩) _ (cb - k) _ hsub
                          rw [Hxl.out] at f2
                          have hkN2 : (k : Int) + (N : Int) ≤ (cb : Int) := by omega
                          have hkN3 : k + N ≤ 500 := by omega
                          clear hsub hc0 hrW
                          generalize strOfNums xs = S at *
                          go_wp2_with fail
                          refine (whole_any (p : Int) w2 (by omega)).mono ?_
                          rintro e w3 ⟨rfl, rfl⟩
                          rw [E8.out]
                          generalize hPP : k * 8 = P at *
                          have HPP := Lib.hid hPP
                          clear hPP
                          go_wp2_with fail
                          go_meet
                          exact ⟨P + 8 * N, congrArg (Value.int .i64) (by omega), st2⟩
                · have n3 : (a == 3) = false := by rw [beq_eq_false_iff_ne]; omega
                  clear a01 a2 a3 e8 hP hP8
                  by_cases hn : n < 0 ∨ 8 * (bs.length : Int) < n
                  · rcases (show n < 0 ∨ (0 ≤ n ∧ 8 * (bs.length : Int) < n) by omega) with hn2 | hn2
                    · have d0 : decide (n < 0) = true := decide_eq_true hn2
                      have Hn := Lib.hid hn
                      clear hn
                      as_aux_lemma =>
                        go_wp2_with fail
                        refine (seek_no w.heap.size g v bs p n _ stA.rd hln Hn.out).mono ?_
                        rintro e w2 ⟨rfl, rfl⟩
                        go_wp2_with fail
                        go_meet
                        exact ⟨p, rfl, stA⟩
                    · have d0 : decide (n < 0) = false := decide_eq_false (by omega)
                      have d1 : decide (((bitsOf bs).length : Int) < n) = true := decide_eq_true (by have := HE2.out; omega)
                      have Hn := Lib.hid hn
                      clear hn hn2
                      as_aux_lemma =>
                        go_wp2_with fail
                        refine (seek_no w.heap.size g v bs p n _ stA.rd hln Hn.out).mono ?_
                        rintro e w2 ⟨rfl, rfl⟩
                        go_wp2_with fail
                        go_meet
                        exact ⟨p, rfl, stA⟩
                  · obtain ⟨N, rfl⟩ : ∃ N : Nat, n = (N : Int) := ⟨n.toNat, by omega⟩
                    have d0 : decide ((N : Int) < 0) = false := decide_eq_false (by omega)
                    have d1 : decide ((bitsOf bs).length < N) = false := decide_eq_false (by have := HE2.out; omega)
                    have hN : N ≤ 8 * bs.length := by omega
                    clear hn
                    as_aux_lemma =>
                      go_wp2_with fail
                      refine (seek_yes w.heap.size g v bs p N _ stA.rd hln hN).mono ?_
                      rintro e w2 ⟨rfl, R2, t2⟩
                      have st2 := stA.step hg R2 t2
                      have q2 : w2.cell? ⟨wr.heap.size, 1, none⟩ = some (.int .i64 (N : Int)) := (blk.out t2 hgs).cell 1
                      clear q0 q1
                      go_wp2_with fail
                      go_meet
                      exact ⟨N, rfl, st2⟩
          case rest =>
            obtain ⟨q, rfl, st2⟩ := hcut
            have hq4 : q ≤ 4000 := by have := st2.rd.le; have := HE2.out; omega
            have hq5 : q ≤ (bitsOf bs).length := by have := st2.rd.le; have := HE2.out; omega
            go_wp2_with fail
            refine (at_any _ _ _ _ _ _ st2.rd).mono ?_
            rintro e wt ⟨rfl, rfl⟩
            go_wp2_with fail
            refine (left_any _ _ _ _ _ _ st2.rd hln).mono ?_
            rintro e wu ⟨rfl, hbu⟩
            have stF := st2.later hbu
            rw [HE2.out]
            go_wp2_with fail
            go_roundg (ss.length - (i + 1))
            case measure => omega
            case rel => exact ⟨i + 1, q, rfl, by omega, by go_num, rfl, stF⟩
        · obtain rfl : i = ss.length := by omega
          go_wp2_with fail
          refine (awake_any _).mono ?_
          rintro e w7 ⟨rfl, hb7⟩
          go_wp2_with fail
          go_ret
          exact ⟨rfl, st.below.trans (hb7.mono st.below.size)⟩
    · have d5 : decide ((500 : Int) < (bs.length : Int)) = true := decide_eq_true (by omega)
      go_enter Try.func4, Try.ntmps4
      go_wp2_with fail
      refine G0.out.mono ?_
      rintro e w1 ⟨rfl, rfl⟩
      go_wp2_with fail
      refine (awake_any _).mono ?_
      rintro e w1 ⟨rfl, hb⟩
      go_wp2_with fail
      go_ret
      exact ⟨rfl, hb⟩
end Go.Proofs.Ytpofdlcadobdoaa.BitsReads
