/-
  Layer 18, graph: in which blocks' places a plan asks: contracts. Conditions: as each theorem names.
-/
import Derived.Test.YtojmcjkeniepcaaGrS
import Derived.Test.YtojmcjkeniepcaaSkH
import Derived.Test.YtojmcjkeniepcaaGrD
import Derived.IntWalk
namespace Go.Proofs.Ytojmcjkeniepcaa.Gr
open Go.ChangeShapes Go.WideShapes Go.ChangeAt Go.RowKit Go.Proofs.Ytojmcjkeniepcaa.Kit Go.Proofs.Ytojmcjkeniepcaa.Pl Go.Proofs.Ytojmcjkeniepcaa.Sk

/-- In whose places a step asks. -/
def AskS (block many : Int) (s : Stp) (y : Int) : Prop := s.a ≠ 1 ∧ s.b / block ≤ y ∧ y ≤ (s.b + s.x - 1) / block ∧ y < many
def AskL (ss : List Stp) (block many y : Int) : Prop := ∃ s ∈ ss, AskS block many s y
theorem AskL.next {ss : List Stp} {k : Nat} (h : k < ss.length) (block many y : Int) : AskL (ss.take (k + 1)) block many y ↔ AskL (ss.take k) block many y ∨ AskS block many ss[k] y := by
  unfold AskL
  rw [take_next h]
  constructor
  · rintro ⟨s, hs, ha⟩
    rcases List.mem_append.1 hs with hs | hs
    · exact Or.inl ⟨s, hs, ha⟩
    · obtain rfl : s = ss[k] := by simpa using hs
      exact Or.inr ha
  · rintro (⟨s, hs, ha⟩ | ha)
    · exact ⟨s, List.mem_append_left _ hs, ha⟩
    · exact ⟨_, List.mem_append_right _ (by simp), ha⟩

def GAsked (ss : List Stp) (block many : Int) (w : World) (e : Ending) (w' : World) : Prop :=
  if ss.all rightS = true then ∃ b N, e = .returned (.tuple #[.map (some b), .int .i64 0]) ∧ N < 900000000 ∧ SetAt w' b N (AskL ss block many) ∧ w.heap.size ≤ b ∧ Below w.heap.size w w'
  else Gives (.tuple #[.map none, .int .i64 3]) w e w'

theorem may_any (block many : Int) (w : World) : Calls Try.prog 27 #[.int .i64 block, .int .i64 many] w fun e w' => e = .returned (.bool (decide (128 ≤ block ∧ block ≤ 4096 ∧ 0 ≤ many ∧ many ≤ 4096))) ∧ w = w' := by
  obtain ⟨bv, hbv⟩ : ∃ bv, decide (128 ≤ block ∧ block ≤ 4096 ∧ 0 ≤ many ∧ many ≤ 4096) = bv := ⟨_, rfl⟩
  rw [hbv]
  have HBV := Lib.hid hbv
  clear hbv
  by_cases h1 : 128 ≤ block
  case neg =>
    have d1 : decide (128 ≤ block) = false := decide_eq_false h1
    obtain rfl : bv = false := by rw [← HBV.out]; exact decide_eq_false (by omega)
    go_enter Try.func27, Try.ntmps27
    go_wp2_with fail
    go_ret
    exact ⟨rfl, rfl⟩
  have d1 : decide (128 ≤ block) = true := decide_eq_true h1
  by_cases h2 : block ≤ 4096
  case neg =>
    have d2 : decide (block ≤ 4096) = false := decide_eq_false h2
    obtain rfl : bv = false := by rw [← HBV.out]; exact decide_eq_false (by omega)
    go_enter Try.func27, Try.ntmps27
    go_wp2_with fail
    go_ret
    exact ⟨rfl, rfl⟩
  have d2 : decide (block ≤ 4096) = true := decide_eq_true h2
  by_cases h3 : 0 ≤ many
  case neg =>
    have d3 : decide (0 ≤ many) = false := decide_eq_false h3
    obtain rfl : bv = false := by rw [← HBV.out]; exact decide_eq_false (by omega)
    go_enter Try.func27, Try.ntmps27
    go_wp2_with fail
    go_ret
    exact ⟨rfl, rfl⟩
  have d3 : decide (0 ≤ many) = true := decide_eq_true h3
  by_cases h4 : many ≤ 4096
  case neg =>
    have d4 : decide (many ≤ 4096) = false := decide_eq_false h4
    obtain rfl : bv = false := by rw [← HBV.out]; exact decide_eq_false (by omega)
    go_enter Try.func27, Try.ntmps27
    go_wp2_with fail
    go_ret
    exact ⟨rfl, rfl⟩
  have d4 : decide (many ≤ 4096) = true := decide_eq_true h4
  obtain rfl : bv = true := by rw [← HBV.out]; exact decide_eq_true ⟨h1, h2, h3, h4⟩
  go_enter Try.func27, Try.ntmps27
  go_wp2_with fail
  go_ret
  exact ⟨rfl, rfl⟩

theorem right_facts {s : Stp} (h : rightS s = true) : 1 ≤ s.x ∧ s.x ≤ 4096 ∧ 0 ≤ s.b ∧ s.b ≤ 2147483647 := by
  unfold rightS rightB at h
  have := of_decide_eq_true h
  omega

set_option maxRecDepth 100000 in
set_option maxHeartbeats 12800000 in
theorem asked_any (A : Option Addr) (ss : List Stp) (c : Nat) (block many : Int) (w : World) (hl : ss.length ≤ 1000) (hb1 : 128 ≤ block) (hb2 : block ≤ 4096) (hm1 : 0 ≤ many) (hm2 : many ≤ 4096) (hr : HoldsS w A ss) :
    Calls Try.prog 28 #[.slice A ss.length c, .int .i64 block, .int .i64 many] w (GAsked ss block many w) := by
  have HNO : Hid (∀ i, ∀ h : i < ss.length, rightS ss[i] = false → ∀ w', Below w.heap.size w w' → GAsked ss block many w (.returned (.tuple #[.map none, .int .i64 3])) w') := Lib.hid (fun i h hri w' hb => by
    unfold GAsked
    rw [if_neg (fun hall => by have := List.all_eq_true.1 hall _ (List.getElem_mem h); rw [hri] at this; cases this)]
    exact ⟨rfl, hb⟩)
  have S0 := SetAt.made w
  have B0 : Below w.heap.size w (w.alloc (.map #[] 0)) := (Below.refl _ _).alloc (Nat.le_refl _) _
  have hmm := @run_makeMap Try.prog
  go_enter Try.func28, Try.ntmps28
  go_wp2_with fail
  go_loopw [15] (fun v wr => ∃ k : Nat, k ≤ ss.length ∧ v = .int .i64 k ∧ (ss.take k).all rightS = true ∧ SetAt wr w.heap.size (4100 * k) (AskL (ss.take k) block many) ∧ Below w.heap.size w wr) (fun v _ => ss.length - (intOf v).toNat)
  case atStart => exact ⟨0, Nat.zero_le _, rfl, by simp, S0.mono (Nat.zero_le _) (fun x => by simp [AskL]), B0⟩
  case round =>
    clear S0 B0
    obtain ⟨k, hk, rfl, hpre, S, B⟩ := hrel
    obtain ⟨wo, rfl⟩ : ∃ wo : World, wo = wr := ⟨_, rfl⟩
    by_cases hlt : k < ss.length
    · have d0 : decide (k < ss.length) = true := decide_eq_true hlt
      obtain ⟨b, off, rfl, hbl, c0, c1, c2, c3, k0, k1, k2, -, -, -, -⟩ := stepAt (steps_below hr B) hlt
      have HNX := Lib.hid (AskL.next hlt block many)
      have HNO2 := Lib.hid (HNO.out k hlt)
      have HALL : Hid (rightS ss[k] = true → (ss.take (k + 1)).all rightS = true) := Lib.hid (fun h => by rw [take_next hlt, List.all_append, hpre]; simp [h])
      have hRF := fun h : rightS ss[k] = true => right_facts h
      have i1 : (k : Int) < (ss.length : Int) := by omega
      obtain ⟨a, n, x, Az, cz, zs, hx⟩ : ∃ a n x Az cz zs, ss[k] = ⟨a, n, x, Az, cz, zs⟩ := ⟨_, _, _, _, _, _, rfl⟩
      rw [hx] at c0 c1 c2 c3 k0 k1 k2 HNX HNO2 HALL hRF
      simp only at c0 c1 c2 c3 k0 k1 k2 HNX HNO2 HALL hRF
      have X := Block.new wo 52 #[.int .u8 a, .int .i64 n, .int .i64 x, .slice Az zs.length cz]
      have S1 := S.below (below_last wo (.cells #[.int .u8 a, .int .i64 n, .int .i64 x, .slice Az zs.length cz] 52))
      have B1 := B.trans ((below_last wo (.cells #[.int .u8 a, .int .i64 n, .int .i64 x, .slice Az zs.length cz] 52)).mono B.size)
      have hz1 : (wo.alloc (.cells #[.int .u8 a, .int .i64 n, .int .i64 x, .slice Az zs.length cz] 52)).heap.size = wo.heap.size + 1 := by simp
      have HZ1 := Lib.hid hz1
      have hg := S.lt
      clear hx S hz1 hpre HNO hr
      cases hri : rightS ⟨a, n, x, Az, cz, zs⟩ with
      | false =>
        have HE := Lib.hid (HNO2.out hri)
        unfold rightS at hri
        have G := Lib.hid (fun W => hri ▸ Pl.right_any a n x Az zs.length cz W)
        clear hri HNO2 HALL hRF
        go_wp2_with (go_at_call 40; refine (G.out _).mono ?_; rintro e w2 ⟨rfl, hb2⟩; have hb3 := B1.trans (hb2.mono B1.size))
        go_ret2
        exact HE.out _ hb3
      | true =>
        have hf := hRF hri
        have HA := Lib.hid (HALL.out hri)
        unfold rightS at hri
        have G := Lib.hid (fun W => hri ▸ Pl.right_any a n x Az zs.length cz W)
        clear hri HNO2 HALL hRF
        obtain ⟨f1, f2, f3, f4⟩ := hf
        by_cases ha : a = 1
        · have e1 : (a == 1) = true := by simpa using ha
          have HNX2 : Hid (∀ y, AskL (ss.take k) block many y ↔ AskL (ss.take (k + 1)) block many y) := Lib.hid (fun y => by
            rw [HNX.out y]
            unfold AskS
            simp [ha])
          clear ha HNX
          go_wp2_with (go_at_call 40; refine (G.out _).mono ?_; rintro e w2 ⟨rfl, hb2⟩; have hb3 := B1.trans (hb2.mono B1.size); have S2 := S1.below hb2; have q0 := (X.below hb2 X.lt).cell 0; simp at q0; clear S1 X)
          go_roundw
          case rel => exact ⟨k + 1, by omega, by go_num, HA.out, S2.mono (by omega) HNX2.out, hb3⟩
          case measure => simp [intOf]; omega
        · have e1 : (a == 1) = false := by simpa using ha
          have HNX2 : Hid (∀ y, AskL (ss.take (k + 1)) block many y ↔ AskL (ss.take k) block many y ∨ (n / block ≤ y ∧ y ≤ (n + x - 1) / block ∧ y < many)) := Lib.hid (fun y => by
            rw [HNX.out y]
            unfold AskS
            simp [ha])
          clear ha HNX
          have hq0 : 0 ≤ n / block := Int.ediv_nonneg f3 (by omega)
          have hqm : n / block ≤ 2147483647 := Int.le_trans (Int.ediv_le_self _ f3) f4
          have hem : (n + x - 1) / block ≤ 2147487743 := Int.le_trans (Int.ediv_le_self _ (by omega)) (by omega)
          go_wp2_with (go_at_call 40; refine (G.out _).mono ?_; rintro e w2 ⟨rfl, hb2⟩; have hb3 := B1.trans (hb2.mono B1.size); have S2 := S1.below hb2; have X2 := X.below hb2 X.lt; have q0 := X2.cell 0; have q1 := X2.cell 1; simp at q0 q1; clear S1 X)
          obtain ⟨f, hff⟩ : ∃ f : Nat, n / block = f := ⟨(n / block).toNat, by omega⟩
          have HF := Lib.hid hff
          rw [hff] at hqm HNX2 ⊢
          clear hff hq0
          go_loopw [11] (fun v wr => ∃ q : Nat, f ≤ q ∧ (q ≤ f ∨ (q : Int) ≤ many) ∧ v = .int .i64 q ∧ SetAt wr w.heap.size (4100 * k + (q - f)) (fun y => AskL (ss.take k) block many y ∨ ((f : Int) ≤ y ∧ y < q ∧ y ≤ (n + x - 1) / block ∧ y < many)) ∧ Block wr wo.heap.size 52 #[.int .u8 a, .int .i64 n, .int .i64 x, .slice Az zs.length cz] ∧ Below w.heap.size w wr) (fun v _ => ((n + x - 1) / block + 1 - intOf v).toNat)
          case atStart => exact ⟨f, Nat.le_refl _, .inl (Nat.le_refl _), rfl, S2.mono (by omega) (fun y => ⟨Or.inl, fun h => by rcases h with h | h; exact h; omega⟩), X2, hb3⟩
          case round =>
            clear S2 X2 hb3 q0 q1 G
            obtain ⟨q, hfq, hqq, rfl, S, X, B2⟩ := hrel
            obtain ⟨wi, rfl⟩ : ∃ wi : World, wi = wr := ⟨_, rfl⟩
            have q1 := X.cell 1
            have q2 := X.cell 2
            simp at q1 q2
            have hqb : (q : Int) ≤ 2147483647 := by omega
            generalize hE : (n + x - 1) / block = E at *
            have HE := Lib.hid hE
            by_cases hqE : (q : Int) ≤ E
            · by_cases hqm2 : (q : Int) < many
              · have d1 : decide ((q : Int) ≤ (n + x - 1) / block) = true := decide_eq_true (by rw [hE]; exact hqE)
                have d2 : decide ((q : Int) < many) = true := decide_eq_true hqm2
                obtain ⟨D, hD, hDS⟩ := S
                have HDS := Lib.hid hDS
                have hlt3 := X.lt
                have hBs := Lib.hid B2.size
                clear hDS hE
                go_wp2_with (at_mapUpdate; refine wpList_mapUpdate_own _ rfl (.tmp 46) (.tmp 47) (.tmp 48) 55 rfl 3 61 keyI Try.underlying55 unitElem w.heap.size _ D rfl hD (by unfold maxLen; omega) (.int .i64 q) (.agg #[]) (.int .i64 q) rfl rfl (key_of (by omega)) (.agg []) [] unitElem_mk ?_; intro w3 hD3 g3)
                go_roundw
                case rel => exact ⟨q + 1, by omega, .inr (by omega), by go_num, ⟨_, (by rw [show 4100 * k + (q + 1 - f) = 4100 * k + (q - f) + 1 by omega]; exact hD3), fun y => by
                  rw [has_put hD.isMap, HDS.out y]
                  constructor
                  · rintro ((h | h) | h)
                    · exact .inl h
                    · exact .inr (by omega)
                    · exact .inr (by omega)
                  · rintro (h | h)
                    · exact .inl (.inl h)
                    · by_cases hy : y = q
                      · exact .inr hy
                      · exact .inl (.inr (by omega))⟩, X.grown g3 (by intro e; injection e with e; omega), B2.trans (below_of_grown g3 hBs.out (fun g hg => by injection hg with hg; omega))⟩
                case measure => simp [intOf]; omega
              · have d1 : decide ((q : Int) ≤ (n + x - 1) / block) = true := decide_eq_true (by rw [hE]; exact hqE)
                have d2 : decide ((q : Int) < many) = false := decide_eq_false hqm2
                clear hE
                go_wp2_with fail
                go_roundw
                case rel => exact ⟨k + 1, by omega, by go_num, HA.out, S.mono (by omega) (fun y => by
                  rw [HNX2.out y]
                  constructor
                  · rintro (h | h)
                    · exact .inl h
                    · exact .inr (by omega)
                  · rintro (h | h)
                    · exact .inl h
                    · exact .inr (by omega)), B2⟩
                case measure => simp [intOf]; omega
            · have d1 : decide ((q : Int) ≤ (n + x - 1) / block) = false := decide_eq_false (by rw [hE]; exact hqE)
              clear hE
              go_wp2_with fail
              go_roundw
              case rel => exact ⟨k + 1, by omega, by go_num, HA.out, S.mono (by omega) (fun y => by
                  rw [HNX2.out y]
                  constructor
                  · rintro (h | h)
                    · exact .inl h
                    · exact .inr (by omega)
                  · rintro (h | h)
                    · exact .inl h
                    · exact .inr (by omega)), B2⟩
              case measure => simp [intOf]; omega
    · have d0 : decide (k < ss.length) = false := decide_eq_false hlt
      obtain rfl : k = ss.length := by omega
      rw [List.take_of_length_le (Nat.le_refl _)] at hpre S
      have HS := Lib.hid S
      have HP := Lib.hid hpre
      clear S hpre hr HNO
      go_wp2_with fail
      go_ret2
      unfold GAsked
      rw [if_pos HP.out]
      exact ⟨_, _, rfl, by omega, HS.out, Nat.le_refl _, B⟩
end Go.Proofs.Ytojmcjkeniepcaa.Gr
