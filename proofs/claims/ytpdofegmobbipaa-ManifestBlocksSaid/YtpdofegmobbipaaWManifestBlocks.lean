/-
  ManifestBlocks: the walk: how many blocks there are, and which one comes as any number, is the document's.
-/
import Derived.Test.YtpdofegmobbipaaMnS
namespace Go.Proofs.Ytpdofegmobbipaa.ManifestBlocks
open Go.ChangeShapes Go.WideShapes Go.ChangeAt Go.RowKit Go.Proofs.Ytpdofegmobbipaa.Kit Go.Proofs.Ytpdofegmobbipaa.Mn Go.Proofs.Ytpdofegmobbipaa.Blk

set_option maxRecDepth 100000 in
set_option maxHeartbeats 3200000 in
theorem walk (m : Man) (k : Int) (w : World) (ho : m.Ok) (hr : Holds w w.heap.size .i64 m.A m.ord) (_ : (Lit.int .i64 k).wf = true) :
    Calls Try.prog 5 #[.agg m.cells.toArray, .int .i64 k] w fun e w' => e = .returned (.bool true) ∧ Below w.heap.size w w' := by
  have B1 := below_last w (.cells m.cells.toArray 27)
  have M1 : ManAt (w.alloc (.cells m.cells.toArray 27)) w.heap.size m := Block.new w _ _
  have R1 := block_range (L := m.cells) M1
  have HL := Lib.hid (m.cells_length ho)
  have hnl := ho.nl
  have hord := ho.ordl
  unfold maxLen at hord
  have f0 := M1.ints.1
  have f2 := M1.ints.2.2.1
  have f4 := M1.ints.2.2.2.2
  have f5 := M1.order ho
  have g1 := M1.lt
  have GA := Lib.hid (fun W => awake22_any W)
  have GR := Lib.hid (fun W hB h5 => rmay_any m ho W ((hr.below hB).more (Below.size (B := w.heap.size) hB)) h5)
  have GB := Lib.hid (fun W => rblocks_any m.nl m.bk W hnl)
  have GC := Lib.hid (fun W hB => cnt_any m ho W ((hr.below hB).more (Below.size (B := w.heap.size) hB)))
  have GN := Lib.hid (fun W hB => nth_any m ho k W ((hr.below hB).more (Below.size (B := w.heap.size) hB)))
  have HC : Hid (m.cnt = if decide m.May = true then blocks m.nl m.bk else 0) := Lib.hid (by unfold Man.cnt; simp)
  have HS : Hid (m.nth k = if 0 ≤ k ∧ k < m.cnt then (if m.md = 2 then m.ord.getD k.toNat 0 else k) else -1) := Lib.hid rfl
  have hcb := m.cnt_bd
  have hlen := m.ord_len
  obtain ⟨L, hL⟩ : ∃ L, m.cells = L := ⟨_, rfl⟩
  rw [hL] at B1 R1 GR GC GN HL f0 f2 f4 f5 g1 ⊢
  clear M1 hL ho
  generalize m.nth k = D at *
  generalize decide m.May = D0 at *
  generalize m.cnt = q at *
  generalize m.nl = nl at *
  generalize m.bk = bk at *
  generalize m.md = md at *
  generalize m.A = A at *
  generalize m.cap = cap at *
  generalize m.ord = ord at *
  generalize blocks nl bk = bl at *
  generalize hW : w.alloc (.cells L.toArray 27) = w1 at *
  by_cases h6 : 60 < ord.length
  · have d6 : decide ((60 : Int) < (ord.length : Int)) = true := decide_eq_true (by omega)
    go_enter Try.func5, Try.ntmps5
    go_wp2_with (go_at_call 8; (with_reducible refine (GA.out _).mono ?_); rintro e w2 ⟨rfl, hb⟩)
    go_ret
    exact ⟨rfl, B1.trans (hb.mono B1.size)⟩
  have d6 : decide ((60 : Int) < (ord.length : Int)) = false := decide_eq_false (by omega)
  cases D0 with
  | false =>
    rw [if_neg (by decide)] at HC
    obtain rfl := HC.out
    have HZ := HS.out
    rw [if_neg (by omega)] at HZ
    subst HZ
    clear HC HS hlen
    by_cases h0 : 0 ≤ k
    · have d0 : decide (0 ≤ k) = true := decide_eq_true h0
      have d1 : decide (k < 0) = false := decide_eq_false (by omega)
      go_enter Try.func5, Try.ntmps5
      go_wp2_with (first
        | (have _t := R1; rw [hW]; refine wpList_load_midV (by rfl) _ _ rfl _ 0 rfl L R1 Try.underlying27 rfl (by rw [HL.out]; kernel_rfl) ?_)
        | (have _t := R1; refine wpList_load_midV (by rfl) _ _ rfl _ 0 rfl L R1 Try.underlying27 rfl (by rw [HL.out]; kernel_rfl) ?_)
        | (have _t := R2; refine wpList_load_midV (by rfl) _ _ rfl _ 0 rfl L R2 Try.underlying27 rfl (by rw [HL.out]; kernel_rfl) ?_)
        | (have _t := R3; refine wpList_load_midV (by rfl) _ _ rfl _ 0 rfl L R3 Try.underlying27 rfl (by rw [HL.out]; kernel_rfl) ?_)
        | (go_at_call 12; (with_reducible refine (GR.out _ B1 (by omega)).mono ?_); rintro e w2 ⟨rfl, hb⟩; have k0 := (hb.cell (p := ⟨w.heap.size, 0, none⟩) g1).trans f0; have k2 := (hb.cell (p := ⟨w.heap.size, 2, none⟩) g1).trans f2; have k4 := (hb.cell (p := ⟨w.heap.size, 4, none⟩) g1).trans f4; have k5 := (hb.cell (p := ⟨w.heap.size, 101, none⟩) g1).trans f5; have R2 := range_below R1 hb g1; have B2 := B1.trans (hb.mono B1.size))
        | (go_at_call 16; (with_reducible refine (GB.out _).mono ?_); rintro e w3 ⟨rfl, rfl⟩)
        | (go_at_call 17; (with_reducible refine (GC.out _ B2).mono ?_); rintro e w4 ⟨rfl, hb4⟩; have R3 := range_below R2 hb4 (Nat.lt_of_lt_of_le g1 hb.size); have B3 := B2.trans (hb4.mono B2.size))
        | (go_at_call 18; (with_reducible refine (GN.out _ B3).mono ?_); rintro e w5 ⟨rfl, hb5⟩; have B4 := B3.trans (hb5.mono B3.size))
        | (go_at_call 8; (with_reducible refine (GA.out _).mono ?_); rintro e w6 ⟨rfl, hb6⟩))
      go_ret
      exact ⟨rfl, B4.trans (hb6.mono B4.size)⟩
    · have d0 : decide (0 ≤ k) = false := decide_eq_false h0
      go_enter Try.func5, Try.ntmps5
      go_wp2_with (first
        | (have _t := R1; rw [hW]; refine wpList_load_midV (by rfl) _ _ rfl _ 0 rfl L R1 Try.underlying27 rfl (by rw [HL.out]; kernel_rfl) ?_)
        | (have _t := R1; refine wpList_load_midV (by rfl) _ _ rfl _ 0 rfl L R1 Try.underlying27 rfl (by rw [HL.out]; kernel_rfl) ?_)
        | (have _t := R2; refine wpList_load_midV (by rfl) _ _ rfl _ 0 rfl L R2 Try.underlying27 rfl (by rw [HL.out]; kernel_rfl) ?_)
        | (have _t := R3; refine wpList_load_midV (by rfl) _ _ rfl _ 0 rfl L R3 Try.underlying27 rfl (by rw [HL.out]; kernel_rfl) ?_)
        | (go_at_call 12; (with_reducible refine (GR.out _ B1 (by omega)).mono ?_); rintro e w2 ⟨rfl, hb⟩; have k0 := (hb.cell (p := ⟨w.heap.size, 0, none⟩) g1).trans f0; have k2 := (hb.cell (p := ⟨w.heap.size, 2, none⟩) g1).trans f2; have k4 := (hb.cell (p := ⟨w.heap.size, 4, none⟩) g1).trans f4; have k5 := (hb.cell (p := ⟨w.heap.size, 101, none⟩) g1).trans f5; have R2 := range_below R1 hb g1; have B2 := B1.trans (hb.mono B1.size))
        | (go_at_call 16; (with_reducible refine (GB.out _).mono ?_); rintro e w3 ⟨rfl, rfl⟩)
        | (go_at_call 17; (with_reducible refine (GC.out _ B2).mono ?_); rintro e w4 ⟨rfl, hb4⟩; have R3 := range_below R2 hb4 (Nat.lt_of_lt_of_le g1 hb.size); have B3 := B2.trans (hb4.mono B2.size))
        | (go_at_call 18; (with_reducible refine (GN.out _ B3).mono ?_); rintro e w5 ⟨rfl, hb5⟩; have B4 := B3.trans (hb5.mono B3.size))
        | (go_at_call 8; (with_reducible refine (GA.out _).mono ?_); rintro e w6 ⟨rfl, hb6⟩))
      go_ret
      exact ⟨rfl, B4.trans (hb6.mono B4.size)⟩
  | true =>
    rw [if_pos rfl] at HC
    obtain rfl := HC.out
    clear HC
    by_cases h0 : 0 ≤ k
    · have d0 : decide (0 ≤ k) = true := decide_eq_true h0
      by_cases h1 : k < q
      · have d1 : decide (k < q) = true := decide_eq_true h1
        by_cases h2 : md = 2
        · have e2 : (md == 2) = true := by rw [beq_iff_eq]; exact h2
          have hl := hlen h2 (by omega)
          obtain ⟨n, rfl⟩ : ∃ n : Nat, k = (n : Int) := ⟨k.toNat, by omega⟩
          have hn : n < ord.length := by omega
          have HZ := HS.out
          rw [if_pos (by omega), if_pos h2, Int.toNat_natCast] at HZ
          obtain ⟨b, off, hA, hbB, hc⟩ := (hr.below B1) (by omega)
          have hcn := hc n hn
          rw [← HZ] at hcn
          rw [hA] at f5
          have g2 : b < w1.heap.size := Nat.lt_of_lt_of_le hbB B1.size
          clear HS hlen hc hA h2 HZ hl
          go_enter Try.func5, Try.ntmps5
          go_wp2_with (first
            | (have _t := R1; rw [hW]; refine wpList_load_midV (by rfl) _ _ rfl _ 0 rfl L R1 Try.underlying27 rfl (by rw [HL.out]; kernel_rfl) ?_)
            | (have _t := R1; refine wpList_load_midV (by rfl) _ _ rfl _ 0 rfl L R1 Try.underlying27 rfl (by rw [HL.out]; kernel_rfl) ?_)
            | (have _t := R2; refine wpList_load_midV (by rfl) _ _ rfl _ 0 rfl L R2 Try.underlying27 rfl (by rw [HL.out]; kernel_rfl) ?_)
            | (have _t := R3; refine wpList_load_midV (by rfl) _ _ rfl _ 0 rfl L R3 Try.underlying27 rfl (by rw [HL.out]; kernel_rfl) ?_)
            | (go_at_call 12; (with_reducible refine (GR.out _ B1 (by omega)).mono ?_); rintro e w2 ⟨rfl, hb⟩; have k0 := (hb.cell (p := ⟨w.heap.size, 0, none⟩) g1).trans f0; have k2 := (hb.cell (p := ⟨w.heap.size, 2, none⟩) g1).trans f2; have k4 := (hb.cell (p := ⟨w.heap.size, 4, none⟩) g1).trans f4; have k5 := (hb.cell (p := ⟨w.heap.size, 101, none⟩) g1).trans f5; have R2 := range_below R1 hb g1; have B2 := B1.trans (hb.mono B1.size); have kn := (hb.cell (p := ⟨b, off + n, none⟩) g2).trans hcn)
            | (go_at_call 16; (with_reducible refine (GB.out _).mono ?_); rintro e w3 ⟨rfl, rfl⟩)
            | (go_at_call 17; (with_reducible refine (GC.out _ B2).mono ?_); rintro e w4 ⟨rfl, hb4⟩; have R3 := range_below R2 hb4 (Nat.lt_of_lt_of_le g1 hb.size); have B3 := B2.trans (hb4.mono B2.size))
            | (go_at_call 18; (with_reducible refine (GN.out _ B3).mono ?_); rintro e w5 ⟨rfl, hb5⟩; have B4 := B3.trans (hb5.mono B3.size))
            | (go_at_call 8; (with_reducible refine (GA.out _).mono ?_); rintro e w6 ⟨rfl, hb6⟩))
          go_ret
          exact ⟨rfl, B4.trans (hb6.mono B4.size)⟩
        · have e2 : (md == 2) = false := by rw [beq_eq_false_iff_ne]; exact h2
          have HZ := HS.out
          rw [if_pos (by omega), if_neg h2] at HZ
          subst HZ
          clear HS hlen h2
          go_enter Try.func5, Try.ntmps5
          go_wp2_with (first
            | (have _t := R1; rw [hW]; refine wpList_load_midV (by rfl) _ _ rfl _ 0 rfl L R1 Try.underlying27 rfl (by rw [HL.out]; kernel_rfl) ?_)
            | (have _t := R1; refine wpList_load_midV (by rfl) _ _ rfl _ 0 rfl L R1 Try.underlying27 rfl (by rw [HL.out]; kernel_rfl) ?_)
            | (have _t := R2; refine wpList_load_midV (by rfl) _ _ rfl _ 0 rfl L R2 Try.underlying27 rfl (by rw [HL.out]; kernel_rfl) ?_)
            | (have _t := R3; refine wpList_load_midV (by rfl) _ _ rfl _ 0 rfl L R3 Try.underlying27 rfl (by rw [HL.out]; kernel_rfl) ?_)
            | (go_at_call 12; (with_reducible refine (GR.out _ B1 (by omega)).mono ?_); rintro e w2 ⟨rfl, hb⟩; have k0 := (hb.cell (p := ⟨w.heap.size, 0, none⟩) g1).trans f0; have k2 := (hb.cell (p := ⟨w.heap.size, 2, none⟩) g1).trans f2; have k4 := (hb.cell (p := ⟨w.heap.size, 4, none⟩) g1).trans f4; have k5 := (hb.cell (p := ⟨w.heap.size, 101, none⟩) g1).trans f5; have R2 := range_below R1 hb g1; have B2 := B1.trans (hb.mono B1.size))
            | (go_at_call 16; (with_reducible refine (GB.out _).mono ?_); rintro e w3 ⟨rfl, rfl⟩)
            | (go_at_call 17; (with_reducible refine (GC.out _ B2).mono ?_); rintro e w4 ⟨rfl, hb4⟩; have R3 := range_below R2 hb4 (Nat.lt_of_lt_of_le g1 hb.size); have B3 := B2.trans (hb4.mono B2.size))
            | (go_at_call 18; (with_reducible refine (GN.out _ B3).mono ?_); rintro e w5 ⟨rfl, hb5⟩; have B4 := B3.trans (hb5.mono B3.size))
            | (go_at_call 8; (with_reducible refine (GA.out _).mono ?_); rintro e w6 ⟨rfl, hb6⟩))
          go_ret
          exact ⟨rfl, B4.trans (hb6.mono B4.size)⟩
      · have d1 : decide (k < q) = false := decide_eq_false h1
        have HZ := HS.out
        rw [if_neg (by omega)] at HZ
        subst HZ
        clear HS hlen
        go_enter Try.func5, Try.ntmps5
        go_wp2_with (first
          | (have _t := R1; rw [hW]; refine wpList_load_midV (by rfl) _ _ rfl _ 0 rfl L R1 Try.underlying27 rfl (by rw [HL.out]; kernel_rfl) ?_)
          | (have _t := R1; refine wpList_load_midV (by rfl) _ _ rfl _ 0 rfl L R1 Try.underlying27 rfl (by rw [HL.out]; kernel_rfl) ?_)
          | (have _t := R2; refine wpList_load_midV (by rfl) _ _ rfl _ 0 rfl L R2 Try.underlying27 rfl (by rw [HL.out]; kernel_rfl) ?_)
          | (have _t := R3; refine wpList_load_midV (by rfl) _ _ rfl _ 0 rfl L R3 Try.underlying27 rfl (by rw [HL.out]; kernel_rfl) ?_)
          | (go_at_call 12; (with_reducible refine (GR.out _ B1 (by omega)).mono ?_); rintro e w2 ⟨rfl, hb⟩; have k0 := (hb.cell (p := ⟨w.heap.size, 0, none⟩) g1).trans f0; have k2 := (hb.cell (p := ⟨w.heap.size, 2, none⟩) g1).trans f2; have k4 := (hb.cell (p := ⟨w.heap.size, 4, none⟩) g1).trans f4; have k5 := (hb.cell (p := ⟨w.heap.size, 101, none⟩) g1).trans f5; have R2 := range_below R1 hb g1; have B2 := B1.trans (hb.mono B1.size))
          | (go_at_call 16; (with_reducible refine (GB.out _).mono ?_); rintro e w3 ⟨rfl, rfl⟩)
          | (go_at_call 17; (with_reducible refine (GC.out _ B2).mono ?_); rintro e w4 ⟨rfl, hb4⟩; have R3 := range_below R2 hb4 (Nat.lt_of_lt_of_le g1 hb.size); have B3 := B2.trans (hb4.mono B2.size))
          | (go_at_call 18; (with_reducible refine (GN.out _ B3).mono ?_); rintro e w5 ⟨rfl, hb5⟩; have B4 := B3.trans (hb5.mono B3.size))
          | (go_at_call 8; (with_reducible refine (GA.out _).mono ?_); rintro e w6 ⟨rfl, hb6⟩))
        go_ret
        exact ⟨rfl, B4.trans (hb6.mono B4.size)⟩
    · have d0 : decide (0 ≤ k) = false := decide_eq_false h0
      have HZ := HS.out
      rw [if_neg (by omega)] at HZ
      subst HZ
      clear HS hlen
      go_enter Try.func5, Try.ntmps5
      go_wp2_with (first
        | (have _t := R1; rw [hW]; refine wpList_load_midV (by rfl) _ _ rfl _ 0 rfl L R1 Try.underlying27 rfl (by rw [HL.out]; kernel_rfl) ?_)
        | (have _t := R1; refine wpList_load_midV (by rfl) _ _ rfl _ 0 rfl L R1 Try.underlying27 rfl (by rw [HL.out]; kernel_rfl) ?_)
        | (have _t := R2; refine wpList_load_midV (by rfl) _ _ rfl _ 0 rfl L R2 Try.underlying27 rfl (by rw [HL.out]; kernel_rfl) ?_)
        | (have _t := R3; refine wpList_load_midV (by rfl) _ _ rfl _ 0 rfl L R3 Try.underlying27 rfl (by rw [HL.out]; kernel_rfl) ?_)
        | (go_at_call 12; (with_reducible refine (GR.out _ B1 (by omega)).mono ?_); rintro e w2 ⟨rfl, hb⟩; have k0 := (hb.cell (p := ⟨w.heap.size, 0, none⟩) g1).trans f0; have k2 := (hb.cell (p := ⟨w.heap.size, 2, none⟩) g1).trans f2; have k4 := (hb.cell (p := ⟨w.heap.size, 4, none⟩) g1).trans f4; have k5 := (hb.cell (p := ⟨w.heap.size, 101, none⟩) g1).trans f5; have R2 := range_below R1 hb g1; have B2 := B1.trans (hb.mono B1.size))
        | (go_at_call 16; (with_reducible refine (GB.out _).mono ?_); rintro e w3 ⟨rfl, rfl⟩)
        | (go_at_call 17; (with_reducible refine (GC.out _ B2).mono ?_); rintro e w4 ⟨rfl, hb4⟩; have R3 := range_below R2 hb4 (Nat.lt_of_lt_of_le g1 hb.size); have B3 := B2.trans (hb4.mono B2.size))
        | (go_at_call 18; (with_reducible refine (GN.out _ B3).mono ?_); rintro e w5 ⟨rfl, hb5⟩; have B4 := B3.trans (hb5.mono B3.size))
        | (go_at_call 8; (with_reducible refine (GA.out _).mono ?_); rintro e w6 ⟨rfl, hb6⟩))
      go_ret
      exact ⟨rfl, B4.trans (hb6.mono B4.size)⟩
end Go.Proofs.Ytpdofegmobbipaa.ManifestBlocks
