/-
  BitsWrites: the walk: whatever is put, the writer's bits are the document's behind each step.
-/
import Derived.Test.YtpofdlcadobdoaaBitX
import Derived.Deep.CutRange
namespace Go.Proofs.Ytpofdlcadobdoaa.BitsWrites
open Go.ChangeShapes Go.WideShapes Go.ChangeAt Go.RowKit Go.Proofs.Ytpofdlcadobdoaa.Kit Go.Proofs.Ytpofdlcadobdoaa.Bits

/-- The writer and the document's list have the same bits, in rows of their own. -/
structure St (w wr : World) (g : Nat) (mv : Value) (m : List Int) (v : Value) : Prop where
  wrt : Wr wr w.heap.size g v m
  own : Own wr w.heap.size 5 .u8 mv m
  apart : Apart mv v
  below : Below w.heap.size w wr

theorem wr_out {S : Nat → Prop} {w w' : World} {B g : Nat} {v : Value} {m : List Int} (h : Wr w B g v m) (ho : TurnsIn S w w') (hg : ¬ S g) (hv : ∀ b, v.ownBlock = some b → ¬ S b) : Wr w' B g v m := ⟨h.blk.out ho hg, h.own.out ho hv, h.bit⟩

/-- Behind a call of the writer's. -/
theorem St.put {w wr w2 : World} {g : Nat} {mv v v2 : Value} {m M : List Int} (h : St w wr g mv m v) (hg : w.heap.size ≤ g) (o : Obj) (W2 : Wr w2 w.heap.size g v2 M) (t2 : TurnsIn (foot g v) (wr.alloc o) w2) (n2 : Newer (wr.alloc o) v v2) :
    Own w2 w.heap.size 5 .u8 mv m ∧ Apart mv v2 ∧ Below w.heap.size w w2 := by
  have W1 : Wr (wr.alloc o) w.heap.size g v m := ⟨h.wrt.blk.alloc o, h.wrt.own.alloc o, h.wrt.bit⟩
  refine ⟨(h.own.alloc o).out t2 fun b hb hf => ?_, h.apart.newer (fun b hb => (h.own.alloc o).top b hb) n2, (h.below.alloc h.below.size o).trans (t2.toBelow (Nat.le_trans h.below.size (by simp)) fun b hb => foot_not W1 hg hb)⟩
  rcases hf with rfl | hf
  · exact h.own.ne_block h.wrt.blk (by decide) hb
  · exact h.apart b hb hf

/-- Behind what the document's list takes. -/
theorem St.app {w w3 w4 : World} {g : Nat} {mv mv' v : Value} {m M : List Int} (W : Wr w3 w.heap.size g v M) (own : Own w3 w.heap.size 5 .u8 mv m) (ap : Apart mv v) (hb : Below w.heap.size w w3)
    (own4 : Own w4 w.heap.size 5 .u8 mv' M) (hg4 : w3.grownBy w4 mv.ownBlock) (hb4 : Below w.heap.size w3 w4) (hv4 : mv'.ownBlock = mv.ownBlock ∨ mv'.ownBlock = some w3.heap.size) : St w w4 g mv' M v :=
  ⟨wr_out W (TurnsIn.ofGrown hg4 (S := fun b => mv.ownBlock = some b) fun b h => h) (fun h => own.ne_block W.blk (by decide) h) (fun b hbv hbm => ap b hbm hbv), own4,
    (ap.symm.newer W.own.top (Newer.ofApp hv4)).symm, hb.trans hb4⟩

theorem St.new {w w3 w4 : World} {g : Nat} {mv' v : Value} {M : List Int} (W : Wr w3 w.heap.size g v M) (hb : Below w.heap.size w w3) (own4 : Own w4 w3.heap.size 5 .u8 mv' M) (hb4 : Below w3.heap.size w3 w4) : St w w4 g mv' M v :=
  ⟨W.below hb4, own4.mono hb.size, (Apart.new own4 (Nat.le_refl _) W.own.top).symm, hb.trans (hb4.mono hb.size)⟩

theorem St.later {w w3 w4 : World} {g : Nat} {mv v : Value} {M : List Int} (h : St w w3 g mv M v) (hb4 : Below w3.heap.size w3 w4) : St w w4 g mv M v :=
  ⟨h.wrt.below hb4, h.own.below hb4, h.apart, h.below.trans (hb4.mono h.below.size)⟩

set_option maxRecDepth 100000 in
set_option maxHeartbeats 6400000 in
theorem walk (A : Option Addr) (ss : List Stp) (c : Nat) (w : World) (hc : ss.length ≤ c) (hm : c ≤ maxLen) (hr : HoldsE (StpIn .i64 .i64 .u32 w w.heap.size) 4 w w.heap.size A ss) :
    Calls Try.prog 3 #[.slice A ss.length c] w fun e w' => e = .returned (.bool true) ∧ Below w.heap.size w w' := by
  have G0 := Lib.hid (great_any A ss c w hc hm hr)
  cases hgr : greatB ss with
  | true =>
    rw [hgr] at G0
    clear hgr
    go_enter Try.func3, Try.ntmps3
    go_wp2_with fail
    refine G0.out.mono ?_
    rintro e w1 ⟨rfl, rfl⟩
    go_wp2_with fail
    refine (awake_any _).mono ?_
    rintro e w1 ⟨rfl, hb⟩
    go_wp2_with fail
    go_ret
    exact ⟨rfl, hb⟩
  | false =>
    obtain ⟨hlen, hall⟩ := great_yes hgr
    rw [hgr] at G0
    clear hgr
    go_enter Try.func3, Try.ntmps3
    go_wp2_with fail
    refine G0.out.mono ?_
    rintro e w1 ⟨rfl, rfl⟩
    go_wp2_with fail
    refine (new_wr w).mono ?_
    rintro e w1 ⟨rfl, W1, b1⟩
    have hs1 := b1.size
    have st0 : St w (w1.alloc (.cells #[] 5)) w.heap.size (.slice (some ⟨w1.heap.size, 0, none⟩) 0 0) [] (.slice none 0 0) :=
      ⟨⟨W1.blk.alloc _, W1.own.alloc _, W1.bit⟩, Own.empty w1 _ _ hs1, fun b _ h => by simp [Value.ownBlock] at h, b1.alloc hs1 _⟩
    go_wp2_with fail
    go_loopw [4, 5] (fun mv s wr => ∃ (i : Nat) (m : List Int) (v : Value), i ≤ ss.length ∧ s = .int .i64 i ∧ St w wr w.heap.size mv m v ∧ m.length ≤ 1000 * i) (fun _ s _ => ss.length - (intOf s).toNat)
    case atStart => exact ⟨0, [], _, Nat.zero_le _, rfl, st0, by simp⟩
    case round =>
      obtain ⟨i, m, v, hi, rfl, st, hml⟩ := hrel
      obtain ⟨Am, cm, rfl, hmc, _, hrm⟩ := st.own.opened
      by_cases hlt : i < ss.length
      · obtain ⟨b, off, rfl, hbl, c0, c1, c2, c3, k0, k1, k2, h1, h2, hoz, hrz⟩ := stepAt (steps_below hr st.below) hlt
        have hzl := hall _ (List.getElem_mem hlt)
        have hrz0 : Holds w w.heap.size .u8 ss[i].A ss[i].zs := by
          obtain ⟨_, _, _, _, _, _, _, _, _, _, _, _, _, _, h⟩ := stepAt hr hlt
          exact h
        generalize ss[i] = s at *
        obtain ⟨a, n, x, Az, cz, zs⟩ := s
        simp only at c0 c1 c2 c3 k0 k1 k2 h1 h2 hoz hrz hzl hrz0
        have hbn := bounds_i64 k1
        have hbx : 0 ≤ x ∧ x < 4294967296 := by have := bounds_u32 k2; omega
        clear k0 k1 k2 hr
        have hsr := st.below.size
        have blk := Block.new wr 30 #[.int .i64 a, .int .i64 n, .int .u32 x, .slice Az zs.length cz]
        have q0 : (wr.alloc (.cells #[.int .i64 a, .int .i64 n, .int .u32 x, .slice Az zs.length cz] 30)).cell? ⟨wr.heap.size, 0, none⟩ = some (.int .i64 a) := blk.cell 0
        have q1 : (wr.alloc (.cells #[.int .i64 a, .int .i64 n, .int .u32 x, .slice Az zs.length cz] 30)).cell? ⟨wr.heap.size, 1, none⟩ = some (.int .i64 n) := blk.cell 1
        have q2 : (wr.alloc (.cells #[.int .i64 a, .int .i64 n, .int .u32 x, .slice Az zs.length cz] 30)).cell? ⟨wr.heap.size, 2, none⟩ = some (.int .u32 x) := blk.cell 2
        have q3 : (wr.alloc (.cells #[.int .i64 a, .int .i64 n, .int .u32 x, .slice Az zs.length cz] 30)).cell? ⟨wr.heap.size, 3, none⟩ = some (.slice Az zs.length cz) := blk.cell 3
        have WA : Wr (wr.alloc (.cells #[.int .i64 a, .int .i64 n, .int .u32 x, .slice Az zs.length cz] 30)) w.heap.size w.heap.size v m := ⟨st.wrt.blk.alloc _, st.wrt.own.alloc _, st.wrt.bit⟩
        have hsA : w.heap.size ≤ (wr.alloc (.cells #[.int .i64 a, .int .i64 n, .int .u32 x, .slice Az zs.length cz] 30)).heap.size := by simp; omega
        have hnf : ¬ foot w.heap.size v wr.heap.size := by
          rintro (h | h)
          · have := st.wrt.blk.lt; omega
          · have := st.wrt.own.top _ h; omega
        by_cases a0 : a = 0
        · subst a0
          go_wp2_with fail
          refine (put_any w.heap.size w.heap.size x n _ m v _ hbx hbn rfl WA hsA (by omega)).mono ?_
          rintro e w2 ⟨rfl, v2, W2, t2, n2⟩
          obtain ⟨own2, ap2, hb2⟩ := st.put (Nat.le_refl _) _ W2 t2 n2
          have blk2 := blk.out t2 hnf
          clear q0 q1 q2 q3
          have q1 : w2.cell? ⟨wr.heap.size, 1, none⟩ = some (.int .i64 n) := blk2.cell 1
          have q2 : w2.cell? ⟨wr.heap.size, 2, none⟩ = some (.int .u32 x) := blk2.cell 2
          have q3 : w2.cell? ⟨wr.heap.size, 3, none⟩ = some (.slice Az zs.length cz) := blk2.cell 3
          go_wp2_with fail
          refine (number_any x n w2 hbx hbn).mono ?_
          rintro e w3 ⟨vn, rfl, own3, hb3⟩
          obtain ⟨An, cn, rfl, _, _, hrn⟩ := own3.opened
          have hnl : (num x (clampN n)).length ≤ 32 := by rw [num_length]; exact clamp_le n
          have ownm := own2.below hb3
          have W3 := W2.below hb3
          have hbw3 := hb2.trans (hb3.mono hb2.size)
          have hs3 := hbw3.size
          go_wp2_with (at_builtin; refine wpList_append_ints (ys := num x (clampN n)) _ rfl _ _ _ rfl elem8 ownm rfl rfl hrn (by omega) hs3 ?_; intro v4 w4 own4 hg4 hb4 hv4; have st4 := St.app W3 ownm ap2 hbw3 own4 hg4 hb4 hv4; obtain ⟨A4, c4, rfl, _, _, _⟩ := own4.opened)
          have hml4 : (m ++ num x (clampN n)).length ≤ 1000 * (i + 1) := by simp; omega
          have hml5 : (m ++ num x (clampN n)).length ≤ 1000000 := by omega
          refine (len_any _ _ _ _ _ st4.wrt hml5).mono ?_
          rintro e w5 ⟨rfl, hb5⟩
          have st5 := st4.later hb5
          go_wp2_with fail
          go_roundw
          case rel => exact ⟨i + 1, m ++ num x (clampN n), _, by omega, by go_num, by rw [List.length_append] at st5; exact st5, hml4⟩
          case measure => simp [intOf] <;> omega
        · have n0 : (a == 0) = false := by rw [beq_eq_false_iff_ne]; exact a0
          by_cases a1 : a = 1
          · subst a1
            clear a0 n0
            go_wp2_with fail
            refine (code_any w.heap.size w.heap.size x n _ m v _ hbx hbn rfl WA hsA (by omega)).mono ?_
            rintro e w2 ⟨rfl, v2, W2, t2, n2⟩
            obtain ⟨own2, ap2, hb2⟩ := st.put (Nat.le_refl _) _ W2 t2 n2
            have blk2 := blk.out t2 hnf
            clear q0 q1 q2 q3
            have q1 : w2.cell? ⟨wr.heap.size, 1, none⟩ = some (.int .i64 n) := blk2.cell 1
            have q2 : w2.cell? ⟨wr.heap.size, 2, none⟩ = some (.int .u32 x) := blk2.cell 2
            have q3 : w2.cell? ⟨wr.heap.size, 3, none⟩ = some (.slice Az zs.length cz) := blk2.cell 3
            go_wp2_with fail
            refine (rcode_any x n w2 hbx hbn).mono ?_
            rintro e w3 ⟨vn, rfl, own3, hb3⟩
            obtain ⟨An, cn, rfl, _, _, hrn⟩ := own3.opened
            have hnl : (num x (clampN n)).reverse.length ≤ 32 := by rw [List.length_reverse, num_length]; exact clamp_le n
            have ownm := own2.below hb3
            have W3 := W2.below hb3
            have hbw3 := hb2.trans (hb3.mono hb2.size)
            have hs3 := hbw3.size
            generalize (num x (clampN n)).reverse = ys at *
            go_wp2_with (at_builtin; refine wpList_append_ints (ys := ys) _ rfl _ _ _ rfl elem8 ownm rfl rfl hrn (by omega) hs3 ?_; intro v4 w4 own4 hg4 hb4 hv4; have st4 := St.app W3 ownm ap2 hbw3 own4 hg4 hb4 hv4; obtain ⟨A4, c4, rfl, _, _, _⟩ := own4.opened)
            have hml4 : (m ++ ys).length ≤ 1000 * (i + 1) := by simp; omega
            have hml5 : (m ++ ys).length ≤ 1000000 := by omega
            refine (len_any _ _ _ _ _ st4.wrt hml5).mono ?_
            rintro e w5 ⟨rfl, hb5⟩
            have st5 := st4.later hb5
            go_wp2_with fail
            go_roundw
            case rel => exact ⟨i + 1, m ++ ys, _, by omega, by go_num, by first | exact st5 | (rw [List.length_append] at st5; exact st5), hml4⟩
            case measure => simp [intOf] <;> omega
          · have n1 : (a == 1) = false := by rw [beq_eq_false_iff_ne]; exact a1
            by_cases a2 : a = 2
            · subst a2
              clear a0 n0 a1 n1
              go_wp2_with fail
              refine (align_any w.heap.size w.heap.size m v _ WA hsA (by omega)).mono ?_
              rintro e w2 ⟨rfl, v2, W2, t2, n2⟩
              obtain ⟨own2, ap2, hb2⟩ := st.put (Nat.le_refl _) _ W2 t2 n2
              clear q0 q1 q2 q3
              obtain ⟨_, _, hh, _, _, hrm2⟩ := own2.opened
              injection hh with hh1 hh2 hh3
              subst hh1 hh3
              clear hh2
              go_wp2_with fail
              refine (rbytes_any _ m cm w2 (by omega) st.wrt.bit hrm2).mono ?_
              rintro e w3 ⟨vn, rfl, own3, hb3⟩
              have hbl := bytesOf_length ((m.length + 7) / 8) m
              have hbo := bytesOf_octets ((m.length + 7) / 8) st.wrt.bit
              have hpad := bits_bytes_pad st.wrt.bit
              have hpl := pad_length m
              have hbl2 : (bytesOf ((m.length + 7) / 8) m).length ≤ 100000 := by omega
              have Hpad := Lib.hid hpad
              clear hpad hbl
              generalize bytesOf ((m.length + 7) / 8) m = ys at *
              obtain ⟨An, cn, rfl, _, _, hrn⟩ := own3.opened
              have W3 := W2.below hb3
              have hbw3 := hb2.trans (hb3.mono hb2.size)
              go_wp2_with fail
              refine (of_any _ ys cn w3 hbl2 hbo hrn).mono ?_
              rintro e w4 ⟨vm, rfl, own4, hb4⟩
              rw [Hpad.out] at own4
              have st4 := St.new W3 hbw3 own4 hb4
              have hml4 : (pad m).length ≤ 1000 * (i + 1) := by omega
              have hml5 : (pad m).length ≤ 1000000 := by omega
              clear hpl
              generalize pad m = M at *
              obtain ⟨A4, c4, rfl, _, _, _⟩ := own4.opened
              go_wp2_with fail
              refine (len_any _ _ _ _ _ st4.wrt hml5).mono ?_
              rintro e w5 ⟨rfl, hb5⟩
              have st5 := st4.later hb5
              go_wp2_with fail
              go_roundw
              case rel => exact ⟨i + 1, M, _, by omega, by go_num, st5, hml4⟩
              case measure => simp [intOf] <;> omega
            · have n2 : (a == 2) = false := by rw [beq_eq_false_iff_ne]; exact a2
              clear a0 a1 a2
              have hrA := hrz0.below (st.below.alloc hsr (.cells #[.int .i64 a, .int .i64 n, .int .u32 x, .slice Az zs.length cz] 30))
              go_wp2_with fail
              refine (raw_any w.heap.size w.heap.size Az zs cz m v _ WA hsA (Nat.le_refl _) (by omega) hoz hrA (by omega)).mono ?_
              rintro e w2 ⟨rfl, v2, W2, t2, n2'⟩
              obtain ⟨own2, ap2, hb2⟩ := st.put (Nat.le_refl _) _ W2 t2 n2'
              have blk2 := blk.out t2 hnf
              clear q0 q1 q2 q3
              obtain ⟨_, _, hh, _, _, hrm2⟩ := own2.opened
              injection hh with hh1 hh2 hh3
              subst hh1 hh3
              clear hh2
              go_wp2_with fail
              refine (rbytes_any _ m cm w2 (by omega) st.wrt.bit hrm2).mono ?_
              rintro e w3 ⟨vn, rfl, own3, hb3⟩
              have hbl := bytesOf_length ((m.length + 7) / 8) m
              have hbo := bytesOf_octets ((m.length + 7) / 8) st.wrt.bit
              have hpad := bits_bytes_pad st.wrt.bit
              have hpl := pad_length m
              have hbl2 : (bytesOf ((m.length + 7) / 8) m).length ≤ 100000 := by omega
              have Hpad := Lib.hid hpad
              clear hpad hbl
              generalize bytesOf ((m.length + 7) / 8) m = ys at *
              obtain ⟨An, cn, rfl, _, _, hrn⟩ := own3.opened
              have W3 := W2.below hb3
              have hbw3 := hb2.trans (hb3.mono hb2.size)
              go_wp2_with fail
              refine (of_any _ ys cn w3 hbl2 hbo hrn).mono ?_
              rintro e w4 ⟨vm, rfl, own4, hb4⟩
              rw [Hpad.out] at own4
              have W4 := W3.below hb4
              have hbw4 := hbw3.trans (hb4.mono hbw3.size)
              have blk4 := (blk2.below hb3 blk2.lt).below hb4 (Nat.lt_of_lt_of_le blk2.lt hb3.size)
              have q3 : w4.cell? ⟨wr.heap.size, 3, none⟩ = some (.slice Az zs.length cz) := blk4.cell 3
              have ap4 := (Apart.new own4 (Nat.le_refl _) W3.own.top).symm
              have own4' := own4.mono hbw3.size
              clear own4
              have hpm : (pad m).length ≤ 1000 * i + 8 := by omega
              clear hpl
              generalize pad m = M at *
              obtain ⟨A4, c4, rfl, _, _, _⟩ := own4'.opened
              go_wp2_with fail
              refine (of_any Az zs cz w4 (by omega) hoz ((hrz0.below hbw4).more hbw4.size)).mono ?_
              rintro e w5 ⟨vz, rfl, own5, hb5⟩
              have hzb := bitsOf_length zs
              have hzb2 : (bitsOf zs).length ≤ 800 := by omega
              clear hzb
              have W5 := W4.below hb5
              have hbw5 := hbw4.trans (hb5.mono hbw4.size)
              have ownm := own4'.below hb5
              have hs5 := hbw5.size
              generalize bitsOf zs = bz at *
              obtain ⟨A5, c5, rfl, _, _, hr5⟩ := own5.opened
              go_wp2_with (at_builtin; refine wpList_append_ints (ys := bz) _ rfl _ _ _ rfl elem8 ownm rfl rfl hr5 (by omega) hs5 ?_; intro v6 w6 own6 hg6 hb6 hv6; have st6 := St.app W5 ownm ap4 hbw5 own6 hg6 hb6 hv6; obtain ⟨A6, c6, rfl, _, _, _⟩ := own6.opened)
              have hml4 : (M ++ bz).length ≤ 1000 * (i + 1) := by simp; omega
              have hml5 : (M ++ bz).length ≤ 1000000 := by omega
              refine (len_any _ _ _ _ _ st6.wrt hml5).mono ?_
              rintro e w7 ⟨rfl, hb7⟩
              have st7 := st6.later hb7
              go_wp2_with fail
              go_roundw
              case rel => exact ⟨i + 1, M ++ bz, _, by omega, by go_num, by rw [List.length_append] at st7; exact st7, hml4⟩
              case measure => simp [intOf] <;> omega
      · obtain rfl : i = ss.length := by omega
        have hml5 : m.length ≤ 1000000 := by omega
        have hbit := st.wrt.bit
        clear hr
        go_wp2_with fail
        go_region_with (first
          | (go_at_call 19; refine (wbytes_any _ _ m _ _ (st.later (below_draws (Below.refl _ _) 1)).wrt hml5).mono ?_; rintro e w2 ⟨vb, rfl, own2, hb2⟩; obtain ⟨A2, c2, rfl, _, _, hr2⟩ := own2.opened; have f2 := conv_any w2 A2 _ c2 _ hr2)
          | (go_at_call 16; refine (rbytes_any Am m cm w2 hml5 hbit (((hrm.below ((below_draws (Below.refl _ _) 1).trans hb2)).more hb2.size))).mono ?_; rintro e w3 ⟨vc, rfl, own3, hb3⟩; obtain ⟨A3, c3, rfl, _, _, hr3⟩ := own3.opened; have f3 := conv_any w3 A3 _ c3 _ hr3; have f23 := conv_any w3 A2 _ c2 _ (hr2.below hb3))
          | (go_at_call 8; refine (awake_any _).mono ?_; rintro e w4 ⟨rfl, hb4⟩))
        all_goals
          go_wp2_with fail
          go_ret
          have hb1 := st.below.trans (below_draws (Below.refl _ _) 1)
          have hb12 := hb1.trans (hb2.mono hb1.size)
          have hb13 := hb12.trans (hb3.mono hb12.size)
          exact ⟨rfl, hb13.trans (hb4.mono hb13.size)⟩
end Go.Proofs.Ytpofdlcadobdoaa.BitsWrites
