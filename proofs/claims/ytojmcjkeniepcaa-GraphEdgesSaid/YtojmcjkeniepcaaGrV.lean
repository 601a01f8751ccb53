/-
  Layer 18, the document's Reads, the law's example: contracts. Conditions: as each theorem names.
-/
import Derived.Test.YtojmcjkeniepcaaGrU
namespace Go.Proofs.Ytojmcjkeniepcaa.Gr
open Go.ChangeShapes Go.WideShapes Go.ChangeAt Go.RowKit Go.Proofs.Ytojmcjkeniepcaa.Kit Go.Proofs.Ytojmcjkeniepcaa.Pl Go.Proofs.Ytojmcjkeniepcaa.Sk

set_option maxRecDepth 100000 in
set_option maxHeartbeats 6400000 in
theorem rreads_any (A : Option Addr) (ss : List Stp) (c : Nat) (block many : Int) (w : World) (hl : ss.length ≤ 1000) (hr : HoldsS w A ss) :
    Calls Try.prog 12 #[.slice A ss.length c, .int .i64 block, .int .i64 many] w (GivesR (readsL ss block many) w) := by
  have O0 := Own.empty w 3 .i64 (B := w.heap.size) (Nat.le_refl _)
  have B0 : Below w.heap.size w (w.alloc (.cells #[] 3)) := (Below.refl _ _).alloc (Nat.le_refl _) _
  cases hm : mayB block many with
  | false =>
    have HO := Lib.hid (GivesR.of (x := 1) O0 B0)
    have hno : ¬ (128 ≤ block ∧ block ≤ 4096 ∧ 0 ≤ many ∧ many ≤ 4096) := of_decide_eq_false hm
    unfold readsL
    rw [if_pos hm]
    clear hr hm O0 B0 hl
    by_cases h1 : block < 128
    · have d1 : decide (block < 128) = true := decide_eq_true h1
      clear hno
      go_enter Try.func12, Try.ntmps12
      go_wp2_with fail
      go_ret2
      exact HO.out
    have d1 : decide (block < 128) = false := decide_eq_false h1
    by_cases h2 : 4096 < block
    · have d2 : decide (4096 < block) = true := decide_eq_true h2
      clear hno
      go_enter Try.func12, Try.ntmps12
      go_wp2_with fail
      go_ret2
      exact HO.out
    have d2 : decide (4096 < block) = false := decide_eq_false h2
    by_cases h3 : many < 0
    · have d3 : decide (many < 0) = true := decide_eq_true h3
      clear hno
      go_enter Try.func12, Try.ntmps12
      go_wp2_with fail
      go_ret2
      exact HO.out
    have d3 : decide (many < 0) = false := decide_eq_false h3
    have d4 : decide (4096 < many) = true := decide_eq_true (by omega)
    clear hno
    go_enter Try.func12, Try.ntmps12
    go_wp2_with fail
    go_ret2
    exact HO.out
  | true =>
    have hm' := hm
    unfold mayB at hm'
    obtain ⟨b1, b2, b3, b4⟩ := of_decide_eq_true hm'
    have d1 : decide (block < 128) = false := decide_eq_false (by omega)
    have d2 : decide (4096 < block) = false := decide_eq_false (by omega)
    have d3 : decide (many < 0) = false := decide_eq_false (by omega)
    have d4 : decide (4096 < many) = false := decide_eq_false (by omega)
    unfold readsL
    rw [if_neg (by rw [hm]; simp)]
    obtain ⟨R, hR⟩ : ∃ R, (if ss.all rightS = true then (askedTo ss block many many.toNat, (0 : Int)) else ([], 3)) = R := ⟨_, rfl⟩
    rw [hR]
    have HR := Lib.hid hR
    clear hm hm' hR
    have HNO : Hid (∀ i, ∀ h : i < ss.length, rightS ss[i] = false → ss.all rightS = false) := Lib.hid (fun i h hri => by
      rw [Bool.eq_false_iff]
      intro hall
      have := List.all_eq_true.1 hall _ (List.getElem_mem h)
      rw [hri] at this
      cases this)
    go_enter Try.func12, Try.ntmps12
    go_wp2_with fail
    go_loopw [29] (fun v wr => ∃ k : Nat, k ≤ ss.length ∧ v = .int .i64 k ∧ (ss.take k).all rightS = true ∧ Own wr w.heap.size 3 .i64 (.slice (some ⟨w.heap.size, 0, none⟩) 0 0) [] ∧ Below w.heap.size w wr) (fun v _ => ss.length - (intOf v).toNat)
    case atStart => exact ⟨0, Nat.zero_le _, rfl, by simp, O0, B0⟩
    case round =>
      clear O0 B0
      obtain ⟨k, hk, rfl, hpre, O, B⟩ := hrel
      obtain ⟨wo, rfl⟩ : ∃ wo : World, wo = wr := ⟨_, rfl⟩
      by_cases hlt : k < ss.length
      · have d0 : decide (k < ss.length) = true := decide_eq_true hlt
        obtain ⟨b, off, rfl, hbl, c0, c1, c2, c3, -, -, -, -, -, -, -⟩ := stepAt (steps_below hr B) hlt
        have HN2 := Lib.hid (HNO.out k hlt)
        have HALL : Hid (rightS ss[k] = true → (ss.take (k + 1)).all rightS = true) := Lib.hid (fun h => by rw [take_next hlt, List.all_append, hpre]; simp [h])
        have i1 : (k : Int) < (ss.length : Int) := by omega
        obtain ⟨a, n, x, Az, cz, zs, hx⟩ : ∃ a n x Az cz zs, ss[k] = ⟨a, n, x, Az, cz, zs⟩ := ⟨_, _, _, _, _, _, rfl⟩
        rw [hx] at c0 c1 c2 c3 HN2 HALL
        simp only at c0 c1 c2 c3 HN2 HALL
        clear hx hpre HNO hr
        cases hri : rightS ⟨a, n, x, Az, cz, zs⟩ with
        | false =>
          have HE := Lib.hid (HN2.out hri)
          unfold rightS at hri
          have G := Lib.hid (fun W => hri ▸ rright_any a n x Az zs.length cz W)
          clear hri HN2 HALL
          go_wp2_with (go_at_call 30; refine (G.out _).mono ?_; rintro e w2 ⟨rfl, hb2⟩; have hb3 := B.trans (hb2.mono B.size); have O2 := O.below hb2)
          go_ret2
          rw [← HR.out, if_neg (by rw [HE.out]; simp)]
          exact GivesR.of O2 hb3
        | true =>
          have HA := Lib.hid (HALL.out hri)
          unfold rightS at hri
          have G := Lib.hid (fun W => hri ▸ rright_any a n x Az zs.length cz W)
          clear hri HN2 HALL
          go_wp2_with (go_at_call 30; refine (G.out _).mono ?_; rintro e w2 ⟨rfl, hb2⟩; have hb3 := B.trans (hb2.mono B.size); have O2 := O.below hb2)
          go_roundw
          case rel => exact ⟨k + 1, by omega, by go_num, HA.out, O2, hb3⟩
          case measure => simp [intOf]; omega
      · have d0 : decide (k < ss.length) = false := decide_eq_false hlt
        rw [List.take_of_length_le (by omega)] at hpre
        have HP := Lib.hid hpre
        obtain ⟨M, rfl⟩ : ∃ M : Nat, many = M := ⟨many.toNat, by omega⟩
        clear hpre HNO
        go_wp2_with fail
        go_loopw [8, 10] (fun v i wr => ∃ m : Nat, m ≤ M ∧ i = .int .i64 m ∧ Own wr w.heap.size 3 .i64 v (askedTo ss block M m) ∧ Below w.heap.size w wr) (fun _ i _ => M - (intOf i).toNat)
        case atStart => exact ⟨0, Nat.zero_le _, rfl, O, B⟩
        case round =>
          clear O B
          obtain ⟨m, hm, rfl, O, B⟩ := hrel
          obtain ⟨wi, rfl⟩ : ∃ wi : World, wi = wr := ⟨_, rfl⟩
          have hzl := askedTo_length ss block M m
          have hz := Lib.hid B.size
          by_cases hlm : m < M
          · have e0 : decide (m < M) = true := decide_eq_true hlm
            have i2 : (m : Int) < (M : Int) := by omega
            have G := Lib.hid (rasks_any A ss c block M m wi b1 b2 i2 b4 HP.out hl (steps_more (steps_below hr B) B.size))
            have HNX := Lib.hid (askedTo_next ss block M m)
            generalize hT : askedTo ss block M m = T at *
            clear hT hr
            by_cases hask : AskL ss block M m
            · rw [decide_eq_true hask] at G
              rw [if_pos hask] at HNX
              clear hask
              go_wp2_with (first
                | (go_at_call 31; refine G.out.mono ?_; rintro e w2 ⟨rfl, hb2⟩; have O2 := O.below hb2; have B2 := B.trans (hb2.mono B.size); have hz2 := Lib.hid B2.size)
                | (have _t := O2; at_builtin; refine wpList_append_one _ rfl (.tmp 49) (.tmp 51) 25 rfl elemI O2 rfl rfl (by omega) hz2.out ?_; clear _t; intro v' w3 h1 h2 h3))
              go_roundw
              case rel => exact ⟨m + 1, by omega, by go_num, by rw [HNX.out]; exact h1, B2.trans h3⟩
              case measure => simp [intOf]; omega
            · rw [decide_eq_false hask] at G
              rw [if_neg hask, List.append_nil] at HNX
              clear hask
              go_wp2_with (go_at_call 31; refine G.out.mono ?_; rintro e w2 ⟨rfl, hb2⟩; have O2 := O.below hb2; have B2 := B.trans (hb2.mono B.size))
              go_roundw
              case rel => exact ⟨m + 1, by omega, by go_num, by rw [HNX.out]; exact O2, B2⟩
              case measure => simp [intOf]; omega
          · have e0 : decide (m < M) = false := decide_eq_false hlm
            obtain rfl : m = M := by omega
            have HO := Lib.hid (GivesR.of (x := 0) O B)
            clear O hr
            go_wp2_with fail
            go_ret2
            rw [← HR.out, if_pos HP.out, Int.toNat_natCast]
            exact HO.out

theorem reads_ex : readsL [⟨2, 127, 2, none, 0, []⟩] 128 2 = ([0, 1], 0) := by decide +kernel
set_option maxRecDepth 100000 in
set_option maxHeartbeats 3200000 in
theorem awake_any (w : World) : Calls Try.prog 10 #[] w (Gives (.bool true) w) := by
  have X := Block.new w 52 #[.int .u8 2, .int .i64 127, .int .i64 2, .slice none 0 0]
  have B0 := below_last w (.cells #[.int .u8 2, .int .i64 127, .int .i64 2, .slice none 0 0] 52)
  have HS := one_step (zs := []) X (by decide) (by decide) (by decide) (Nat.le_refl _) (Nat.zero_le _) (fun x hx => absurd hx (by simp)) Holds.nil
  have G := Lib.hid (reads_any _ _ 1 128 2 _ (by simp) HS)
  rw [reads_ex] at G
  clear HS X
  go_enter Try.func10, Try.ntmps10
  go_wp2_with (go_at_call 11; refine G.out.mono ?_; rintro e w2 ⟨A, cap, rfl, h1, h2, h3, hb2⟩; obtain ⟨b, off, rfl, -, hc⟩ := h3 (by simp); have q0 := hc 0 (by simp); have q1 := hc 1 (by simp); simp at q0 q1; simp only [List.length_cons, List.length_nil] at h1 ⊢; clear h3 hc)
  go_ret
  exact ⟨rfl, B0.trans (hb2.mono B0.size)⟩
end Go.Proofs.Ytojmcjkeniepcaa.Gr
