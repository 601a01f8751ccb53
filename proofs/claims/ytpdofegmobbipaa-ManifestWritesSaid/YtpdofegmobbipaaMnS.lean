/-
  Layer 22, manifest: which block comes, the example: contracts. Conditions: as each theorem names.
-/
import Derived.Test.YtpdofegmobbipaaMnR
namespace Go.Proofs.Ytpdofegmobbipaa.Mn
open Go.ChangeShapes Go.WideShapes Go.ChangeAt Go.RowKit Go.Proofs.Ytpdofegmobbipaa.Kit Go.Proofs.Ytpdofegmobbipaa.Ordr Go.Proofs.Ytpdofegmobbipaa.Blk Go.Proofs.Ytpdofegmobbipaa.Oct

/-- Which block comes as number k. -/
def Man.nth (m : Man) (k : Int) : Int := if 0 ≤ k ∧ k < m.cnt then (if m.md = 2 then m.ord.getD k.toNat 0 else k) else -1
theorem Man.ord_len (m : Man) (h2 : m.md = 2) (h : 0 < m.cnt) : (m.ord.length : Int) = m.cnt := by
  obtain ⟨h1, h3, _⟩ := m.cnt_yes h
  have h4 := h1.2.2.2.2.2.2.1
  unfold Man.want at h4
  rw [if_pos h2] at h4
  have := (blocks_bd m.nl m.bk).1
  omega

set_option maxRecDepth 100000 in
set_option maxHeartbeats 1600000 in
theorem nth_any (m : Man) (ho : m.Ok) (k : Int) (w : World) (hr : m.In w) : Calls Try.prog 18 #[.agg m.cells.toArray, .int .i64 k] w fun e w' => e = .returned (.int .i64 (m.nth k)) ∧ Below w.heap.size w w' := by
  have B1 := below_last w (.cells m.cells.toArray 27)
  have M1 : ManAt (w.alloc (.cells m.cells.toArray 27)) w.heap.size m := Block.new w _ _
  have R1 := block_range (L := m.cells) M1
  have HL := Lib.hid (m.cells_length ho)
  have GM := Lib.hid (fun W hB => cnt_any m ho W ((hr.below hB).more (Below.size (B := w.heap.size) hB)))
  have HS : Hid (m.nth k = if 0 ≤ k ∧ k < m.cnt then (if m.md = 2 then m.ord.getD k.toNat 0 else k) else -1) := Lib.hid rfl
  have hlen := m.ord_len
  have f0 := M1.ints.1
  have f5 := M1.order ho
  have g1 := M1.lt
  obtain ⟨L, hL⟩ : ∃ L, m.cells = L := ⟨_, rfl⟩
  rw [hL] at B1 R1 GM HL f0 f5 g1 ⊢
  clear hL M1 ho
  change Holds w w.heap.size .i64 m.A m.ord at hr
  generalize m.nth k = D at *
  generalize m.cnt = q at *
  generalize m.md = md at *
  generalize m.A = A at *
  generalize m.cap = cap at *
  generalize m.ord = ord at *
  generalize hW : w.alloc (.cells L.toArray 27) = w1 at *
  by_cases h0 : k < 0
  · have d0 : decide (k < 0) = true := decide_eq_true h0
    have HZ : Hid (D = -1) := Lib.hid (by rw [HS.out, if_neg (by omega)])
    clear HS
    go_enter Try.func18, Try.ntmps18
    go_wp2_with fail
    go_ret
    exact ⟨by rw [HZ.out]; rfl, B1⟩
  have d0 : decide (k < 0) = false := decide_eq_false h0
  by_cases h1 : q ≤ k
  · have d1 : decide (q ≤ k) = true := decide_eq_true h1
    have HZ : Hid (D = -1) := Lib.hid (by rw [HS.out, if_neg (by omega)])
    clear HS
    go_enter Try.func18, Try.ntmps18
    go_wp2_with (first
      | (have _t := R1; rw [hW]; refine wpList_load_midV (by rfl) _ _ rfl _ 0 rfl L R1 Try.underlying27 rfl (by rw [HL.out]; kernel_rfl) ?_)
      | (have _t := R1; refine wpList_load_midV (by rfl) _ _ rfl _ 0 rfl L R1 Try.underlying27 rfl (by rw [HL.out]; kernel_rfl) ?_)
      | (go_at_call 17; (with_reducible refine (GM.out _ B1).mono ?_); rintro e w2 ⟨rfl, hb⟩))
    go_ret
    exact ⟨by rw [HZ.out]; rfl, B1.trans (hb.mono B1.size)⟩
  have d1 : decide (q ≤ k) = false := decide_eq_false h1
  by_cases h2 : md = 2
  · have e2 : (md == 2) = true := by rw [beq_iff_eq]; exact h2
    have hl := hlen h2 (by omega)
    obtain ⟨n, rfl⟩ : ∃ n : Nat, k = (n : Int) := ⟨k.toNat, by omega⟩
    have hn : n < ord.length := by omega
    have HZ : Hid (D = ord.getD n 0) := Lib.hid (by rw [HS.out, if_pos (by omega), if_pos h2, Int.toNat_natCast])
    obtain ⟨b, off, hA, hbB, hc⟩ := (hr.below B1) (by omega)
    have hcn := hc n hn
    rw [hA] at f5
    have g2 : b < w1.heap.size := Nat.lt_of_lt_of_le hbB B1.size
    clear HS hlen hc hA h2
    generalize ord.getD n 0 = x at *
    go_enter Try.func18, Try.ntmps18
    go_wp2_with (first
      | (have _t := R1; rw [hW]; refine wpList_load_midV (by rfl) _ _ rfl _ 0 rfl L R1 Try.underlying27 rfl (by rw [HL.out]; kernel_rfl) ?_)
      | (have _t := R1; refine wpList_load_midV (by rfl) _ _ rfl _ 0 rfl L R1 Try.underlying27 rfl (by rw [HL.out]; kernel_rfl) ?_)
      | (go_at_call 17; (with_reducible refine (GM.out _ B1).mono ?_); rintro e w2 ⟨rfl, hb⟩; have k0 := (hb.cell (p := ⟨w.heap.size, 0, none⟩) g1).trans f0; have k5 := (hb.cell (p := ⟨w.heap.size, 101, none⟩) g1).trans f5; have kn := (hb.cell (p := ⟨b, off + n, none⟩) g2).trans hcn))
    go_ret
    exact ⟨by rw [HZ.out]; rfl, B1.trans (hb.mono B1.size)⟩
  · have e2 : (md == 2) = false := by rw [beq_eq_false_iff_ne]; exact h2
    have HZ : Hid (D = k) := Lib.hid (by rw [HS.out, if_pos (by omega), if_neg h2])
    clear HS hlen h2
    go_enter Try.func18, Try.ntmps18
    go_wp2_with (first
      | (have _t := R1; rw [hW]; refine wpList_load_midV (by rfl) _ _ rfl _ 0 rfl L R1 Try.underlying27 rfl (by rw [HL.out]; kernel_rfl) ?_)
      | (have _t := R1; refine wpList_load_midV (by rfl) _ _ rfl _ 0 rfl L R1 Try.underlying27 rfl (by rw [HL.out]; kernel_rfl) ?_)
      | (go_at_call 17; (with_reducible refine (GM.out _ B1).mono ?_); rintro e w2 ⟨rfl, hb⟩; have k0 := (hb.cell (p := ⟨w.heap.size, 0, none⟩) g1).trans f0))
    go_ret
    exact ⟨by rw [HZ.out]; rfl, B1.trans (hb.mono B1.size)⟩

/-- The example's manifest. -/
def manB : Man := ⟨1, 0, 128, 0, 0, zero32, zero32, zero32, none, 0, []⟩
theorem manB_ok : manB.Ok := ⟨by decide, by decide, by decide, by decide, by decide, by decide, by decide, by decide, zero_octets, zero_octets, zero_octets, (fun _ h => by cases h), ⟨Nat.le_refl _, Nat.zero_le _⟩⟩
theorem manB_put : manB.putV.length = 118 ∧ manB.putE = 0 := by
  have h : manB.May := by decide +kernel
  refine ⟨?_, if_pos h⟩
  rw [show manB.putV = manB.putL from if_pos h]
  unfold Man.putL
  rw [List.length_append, (manB.pre_length manB_ok).2.2.2.2.2.2, ordL_length]
  rfl

set_option maxRecDepth 100000 in
set_option maxHeartbeats 1600000 in
theorem awake22_any (w : World) : Calls Try.prog 8 #[] w fun e w' => e = .returned (.bool true) ∧ Below w.heap.size w w' := by
  have hb : ∀ W, (Instr.build 27 #[(0, .int .u8 1), (2, .int .i64 128)]).run Try.prog W = .ok (.agg manB.cells.toArray) W := fun W => by kernel_rfl
  have GS := mput_any manB manB_ok w Holds.nil (Nat.zero_le _)
  obtain ⟨h1, h2⟩ := manB_put
  rw [h2] at GS
  generalize manB.putV = P at *
  have HB := Lib.hid hb
  have GS := Lib.hid GS
  have HP := Lib.hid h1
  obtain ⟨L, hL⟩ : ∃ L, manB.cells = L := ⟨_, rfl⟩
  rw [hL] at HB GS
  clear hb hL h1 h2
  go_enter Try.func8, Try.ntmps8
  go_wp2_with (first
    | (refine wpList_build_known rfl _ _ rfl (.agg L.toArray) ?_ ?_; (intro W; have hw9 := HB.out W; simpa [Act.eval] using hw9))
    | (go_at_call 9; (refine GS.out.mono ?_); rintro e w2 ⟨A, c, rfl, hl, hm, hr, hb⟩; rw [HP.out]))
  go_ret
  exact ⟨rfl, hb⟩
end Go.Proofs.Ytpdofegmobbipaa.Mn
