/-
  Layer 20, safe: the error of a plan: the program's. Conditions: as each theorem names.
-/
import Derived.Test.YtheofegmbajmkaaSaD
namespace Go.Proofs.Ytheofegmbajmkaa.Sa
open Go.ChangeShapes Go.WideShapes Go.ChangeAt Go.RowKit Go.Proofs.Ytheofegmbajmkaa.Kit Go.Proofs.Ytheofegmbajmkaa.Ordr Go.Proofs.Ytheofegmbajmkaa.Blk Go.Proofs.Ytheofegmbajmkaa.Pl

def sumX (ss : List Stp) : Int := (ss.map Stp.x).sum
theorem sumX_next {ss : List Stp} {i : Nat} (h : i < ss.length) : sumX (ss.take (i + 1)) = sumX (ss.take i) + ss[i].x := by
  unfold sumX
  rw [List.take_succ_eq_append_getElem h, List.map_append, List.sum_append]
  simp
theorem sumX_bd : ∀ {ss : List Stp}, ss.all rightS = true → 0 ≤ sumX ss ∧ sumX ss ≤ 4096 * ss.length
  | [], _ => by simp [sumX]
  | s :: ss, h => by
    simp only [List.all_cons, Bool.and_eq_true] at h
    have h1 := sumX_bd h.2
    have h2 := right_ok h.1
    unfold StpOk at h2
    simp only [sumX, List.map_cons, List.sum_cons, List.length_cons] at h1 ⊢
    push_cast
    omega
/-- The error's number of a plan, done behind others. -/
def oneE (ss : List Stp) (l : List Int) (bl old want : Int) : Int :=
  if ss.all rightS = true then (if sumX ss = want then (if (ss.any fun s => farB old s.a s.b s.x) = true then 5 else if (ss.any fun s => l.any fun i => meetsB bl i s.a s.b s.x) = true then 23 else 0) else 13) else 3

set_option maxRecDepth 100000 in
set_option maxHeartbeats 6400000 in
theorem check_any (g gT n : Nat) (bl old : Int) (l : List Int) (A : Option Addr) (ss : List Stp) (c : Nat) (want : Int) (w : World) (hP : Place w g gT n bl old l) (hlen : ss.length ≤ 60) (hc : ss.length ≤ c) (hm : c ≤ maxLen) (hr : HoldsS w A ss) (hn : n ≤ 40) (hbl : 128 ≤ bl ∧ bl ≤ 4096) (hl : ∀ i ∈ l, 0 ≤ i ∧ i < (n : Int)) :
    Calls Try.prog 16 #[.pointer (some ⟨g, 0, none⟩), .slice A ss.length c, .int .i64 want] w (Gives (.int .i64 (oneE ss l bl old want)) w) := by
  obtain ⟨D, hD⟩ : ∃ D, oneE ss l bl old want = D := ⟨_, rfl⟩
  have HD := Lib.hid hD
  rw [hD]
  clear hD
  unfold oneE at HD
  have HN := Lib.hid (fun (i : Nat) (h : i < ss.length) => sumX_next h)
  have HT := Lib.hid (fun (i : Nat) (h : i < ss.length) => Pl.take_next h)
  have HE : Hid (ss.take ss.length = ss) := Lib.hid List.take_length
  have HW : Hid (∀ W, Below w.heap.size w W → Place W g gT n bl old l ∧ HoldsS W A ss) := Lib.hid fun W h => ⟨hP.below h hP.lt.1 hP.lt.2, steps_more (steps_below hr h) h.size⟩
  have HL := Lib.hid hl
  have HBL := Lib.hid hbl
  have HH := Lib.hid hc
  have HM := Lib.hid hm
  unfold maxLen at hm
  clear hP hl hbl
  go_enter Try.func16, Try.ntmps16
  go_wp2_with fail
  go_loopw [7, 12] (fun v s wr => ∃ i : Nat, i ≤ ss.length ∧ s = .int .i64 i ∧ v = .int .i64 (sumX (ss.take i)) ∧ (ss.take i).all rightS = true ∧ Below w.heap.size w wr) (fun _ s _ => ss.length - (intOf s).toNat)
  case atStart => exact ⟨0, Nat.zero_le _, rfl, by simp [sumX], by simp, Below.refl _ _⟩
  case round =>
    obtain ⟨i, hi, rfl, rfl, hpre, hb⟩ := hrel
    by_cases hlt : i < ss.length
    · obtain ⟨b, off, rfl, hbo, c0, c1, c2, c3, k0, k1, k2, h1, h2, hoz, hrz⟩ := stepAt (steps_below hr hb) hlt
      have hnext := HT.out i hlt
      have HSN := Lib.hid (HN.out i hlt)
      have hbd := sumX_bd hpre
      have hlx : ((ss.take i).length : Int) ≤ 60 := by rw [List.length_take]; omega
      have d1 : decide ((i : Int) < (ss.length : Int)) = true := decide_eq_true (by omega)
      have d2 : decide (i < ss.length) = true := decide_eq_true hlt
      generalize ss[i] = s at *
      cases hri : rightS s with
      | true =>
        have HP : Hid ((ss.take (i + 1)).all rightS = true) := Lib.hid (by rw [hnext, List.all_append, hpre]; simp [hri])
        have hok := right_ok hri
        unfold StpOk at hok
        unfold rightS at hri
        obtain ⟨a, n', x, Az, cz, zs⟩ := s
        simp only at c0 c1 c2 c3 hri hok HSN
        have G := Lib.hid (fun W => hri ▸ right_any a n' x Az zs.length cz W)
        have x1 : 1 ≤ x ∧ x ≤ 4096 := hok.1
        have y1 : 0 ≤ sumX (ss.take i) ∧ sumX (ss.take i) ≤ 245760 := by omega
        clear hri k0 k1 k2 h1 h2 hoz hrz hnext hpre hok hbd hlx
        generalize sumX (ss.take i) = y at *
        go_wp2_with (go_at_call 28; refine (G.out _).mono ?_; rintro e w2 ⟨rfl, hb2⟩; have hb3 := (hb.alloc hb.size (.cells #[.int .u8 a, .int .i64 n', .int .i64 x, .slice Az zs.length cz] 41)).trans (hb2.mono (by simp; have := hb.size; omega)); have kb := (Block.new wr 41 #[.int .u8 a, .int .i64 n', .int .i64 x, .slice Az zs.length cz]).below hb2 (by simp); have kc := kb.cell 2)
        go_roundw
        case rel => exact ⟨i + 1, by omega, by go_num, by rw [HSN.out], HP.out, hb3⟩
        case measure => simp [intOf] <;> omega
      | false =>
        obtain rfl : D = 3 := by
          rw [← HD.out, if_neg]
          intro hall
          have := all_take hall (i + 1)
          rw [hnext, List.all_append] at this
          simp [hri] at this
        unfold rightS at hri
        obtain ⟨a, n', x, Az, cz, zs⟩ := s
        simp only at c0 c1 c2 c3 hri
        have G := Lib.hid (fun W => hri ▸ right_any a n' x Az zs.length cz W)
        clear hri k0 k1 k2 h1 h2 hoz hrz hnext hpre hbd hlx HSN
        generalize sumX (ss.take i) = y at *
        go_wp2_with (go_at_call 28; refine (G.out _).mono ?_; rintro e w2 ⟨rfl, hb2⟩; have hb3 := (hb.alloc hb.size (.cells #[.int .u8 a, .int .i64 n', .int .i64 x, .slice Az zs.length cz] 41)).trans (hb2.mono (by simp; have := hb.size; omega)))
        go_ret
        exact ⟨rfl, hb3⟩
    · obtain rfl : i = ss.length := by omega
      have d1 : decide ((ss.length : Int) < (ss.length : Int)) = false := decide_eq_false (by omega)
      have d2 : decide (ss.length < ss.length) = false := decide_eq_false (by omega)
      rw [HE.out] at hpre ⊢
      obtain ⟨hPW, hRW⟩ := HW.out _ hb
      have GF := Lib.hid (hasfar_any g gT n bl old l A ss c wr hPW hpre hlen HH.out HM.out hRW)
      rw [if_pos hpre] at HD
      have GL := Lib.hid (fun W (h : Below w.heap.size w W) => haslate_any g gT n bl old l A ss c W (HW.out _ h).1 hpre hlen HH.out HM.out (HW.out _ h).2 hn HBL.out HL.out)
      clear hpre hPW hRW
      generalize sumX ss = y at *
      by_cases hy : y = want
      · have e1 : (y != want) = false := by rw [hy]; simp
        have e2 : (y == want) = true := by rw [beq_iff_eq]; exact hy
        rw [if_pos hy] at HD
        have HY := Lib.hid hy
        clear hy
        obtain ⟨F, hF⟩ : ∃ F, (ss.any fun s => farB old s.a s.b s.x) = F := ⟨_, rfl⟩
        rw [hF] at HD GF
        clear hF
        cases F with
        | true =>
          obtain rfl := HD.out
          go_wp2_with (go_at_call 29; refine GF.out.mono ?_; rintro e w2 ⟨rfl, hb2⟩)
          go_ret
          exact ⟨rfl, hb.trans (hb2.mono hb.size)⟩
        | false =>
          obtain ⟨E, hE⟩ : ∃ E, (ss.any fun s => l.any fun i => meetsB bl i s.a s.b s.x) = E := ⟨_, rfl⟩
          rw [hE] at HD GL
          clear hE
          cases E with
          | true =>
            obtain rfl := HD.out
            go_wp2_with (first
              | (go_at_call 29; refine GF.out.mono ?_; rintro e w2 ⟨rfl, hb2⟩; have hb3 := hb.trans (hb2.mono hb.size))
              | (go_at_call 29; have _t := hb3; refine (GL.out _ hb3).mono ?_; rintro e w3 ⟨rfl, hb4⟩))
            go_ret
            exact ⟨rfl, hb3.trans (hb4.mono hb3.size)⟩
          | false =>
            obtain rfl := HD.out
            go_wp2_with (first
              | (go_at_call 29; refine GF.out.mono ?_; rintro e w2 ⟨rfl, hb2⟩; have hb3 := hb.trans (hb2.mono hb.size))
              | (go_at_call 29; have _t := hb3; refine (GL.out _ hb3).mono ?_; rintro e w3 ⟨rfl, hb4⟩))
            go_ret
            exact ⟨rfl, hb3.trans (hb4.mono hb3.size)⟩
      · have e1 : (y != want) = true := by rw [bne_iff_ne]; exact hy
        have e2 : (y == want) = false := by rw [beq_eq_false_iff_ne]; exact hy
        rw [if_neg hy] at HD
        obtain rfl := HD.out
        clear hy
        go_wp2_with fail
        go_ret
        exact ⟨rfl, hb⟩
end Go.Proofs.Ytheofegmbajmkaa.Sa
