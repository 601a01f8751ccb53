/-
  PartBack: the walk: what was written is read, with zeros to the end of its last sector; all other bytes of the device are as they were.
-/
import Derived.Test.YtchbgmpkdkecgaaPaP
import Derived.Test.YtchbgmpkdkecgaaPart5
import Derived.BigQuiet
namespace Go.Proofs.Ytchbgmpkdkecgaa.PartBack
open Go.ChangeShapes Go.WideShapes Go.ChangeAt Go.RowKit Go.Proofs.Ytchbgmpkdkecgaa.Kit Go.Proofs.Ytchbgmpkdkecgaa.Sec Go.Proofs.Ytchbgmpkdkecgaa.Pt

/-- A part, the whole device as a part, and the bytes that fill it, in block g. -/
structure Two7 (w0 w : World) (a mk mw p t g : Nat) (F C : Int) (M : Nat) (s : Dv) (xs : List Int) : Prop where
  d : DvAt w (fun b => b ≠ g) a mk mw s
  p : PartAt w p a F C
  t : PartAt w t a 0 M
  b : Below w0.heap.size w0 w
  o : Own w w0.heap.size 5 .u8 (.slice (some ⟨g, 0, none⟩) xs.length xs.length) xs
  y : Block w w0.heap.size 25 #[.int .i64 F, .int .i64 C]
  l : w0.heap.size ≤ a ∧ w0.heap.size ≤ mk ∧ w0.heap.size ≤ mw ∧ w0.heap.size ≤ g ∧ g < w.heap.size
section
variable {w0 w w' : World} {a mk mw p t g : Nat} {F C : Int} {M : Nat} {s s' : Dv} {xs : List Int}
theorem Two7.below (h : Two7 w0 w a mk mw p t g F C M s xs) (hb : Below w.heap.size w w') : Two7 w0 w' a mk mw p t g F C M s xs :=
  ⟨h.d.below hb, Block.below h.p hb (Block.lt h.p), Block.below h.t hb (Block.lt h.t), h.b.trans (hb.mono h.b.size), Own.below h.o hb, h.y.below hb h.y.lt, h.l.1, h.l.2.1, h.l.2.2.1, h.l.2.2.2.1, Nat.lt_of_lt_of_le h.l.2.2.2.2 hb.size⟩
theorem Two7.turn (h : Two7 w0 w a mk mw p t g F C M s xs) (hd : DvAt w' (fun b => b ≠ g) a mk mw s') (tn : TurnsIn (DSet a mk mw) w w') : Two7 w0 w' a mk mw p t g F C M s' xs :=
  ⟨hd, Block.dset h.d tn h.p (by decide), Block.dset h.d tn h.t (by decide), h.b.trans (tn.toBelow h.b.size fun b hb hs => by
    obtain ⟨h1, h2, h3, h4⟩ := h.l
    rcases hs with rfl | rfl | rfl <;> omega), h.d.own tn h.o (by decide), Block.dset h.d tn h.y (by decide), h.l.1, h.l.2.1, h.l.2.2.1, h.l.2.2.2.1, Nat.lt_of_lt_of_le h.l.2.2.2.2 tn.size⟩
theorem Two7.set_ (h : Two7 w0 w a mk mw p t g F C M s xs) (i : Nat) (z : Int) (hi : i < xs.length) : Two7 w0 (w.setCell ⟨g, i, none⟩ (.int .u8 z)) a mk mw p t g F C M s (xs.set i z) := by
  have tn : TurnsIn (fun b => b = g) w (w.setCell ⟨g, i, none⟩ (.int .u8 z)) := TurnsIn.setCell (S := fun b => b = g) (p := ⟨g, i, none⟩) (TurnsIn.refl _ w) (Or.inl rfl) _
  have gr := grown_set w g i (.int .u8 z)
  have hrow := h.o.form (by omega)
  obtain ⟨g1, c1, he, -, -, -, -⟩ := hrow
  have hnd : ∀ b, DSet a mk mw b → b ≠ g := by
    rintro b hb rfl
    rcases h.o.2 with ⟨e, _⟩ | ⟨g2, cap, cur, e, _, hg, _⟩
    · cases e
    · injection e with e _ _
      injection e with e
      injection e with e _ _
      subst e
      exact h.d.no_row b hb _ _ hg
  refine ⟨h.d.out tn (fun e => hnd a (Or.inl rfl) e) (fun e => hnd mk (Or.inr (Or.inl rfl)) e) (fun e => hnd mw (Or.inr (Or.inr rfl)) e) (fun b hb hI => absurd hb hI), ?_, ?_, h.b.trans (tn.toBelow h.b.size fun b hb e => by have := h.l.2.2.2.1; omega), ?_, Block.grown h.y gr (by intro e; injection e with e; exact h.o.ne_block h.y (by decide) (by rw [e]; rfl)), h.l.1, h.l.2.1, h.l.2.2.1, h.l.2.2.2.1, Nat.lt_of_lt_of_le h.l.2.2.2.2 tn.size⟩
  · exact Block.grown h.p gr (by intro e; injection e with e; exact h.o.ne_block h.p (by decide) (by rw [e]; rfl))
  · exact Block.grown h.t gr (by intro e; injection e with e; exact h.o.ne_block h.t (by decide) (by rw [e]; rfl))
  · rw [List.length_set]
    exact (h.o.stored rfl i z).1
end

/-- The fill, so far. -/
def fillL (K i : Nat) : List Int := List.replicate i 201 ++ List.replicate (K - i) 0
theorem fillL_length {K i : Nat} (h : i ≤ K) : (fillL K i).length = K := by unfold fillL; rw [List.length_append, List.length_replicate, List.length_replicate]; omega
theorem fillL_set {K i : Nat} (h : i < K) : (fillL K i).set i 201 = fillL K (i + 1) := by
  unfold fillL
  rw [List.set_append_right _ _ (by rw [List.length_replicate]; exact Nat.le_refl _), List.length_replicate, Nat.sub_self]
  obtain ⟨d, hd⟩ : ∃ d, K - i = d + 1 := ⟨K - i - 1, by omega⟩
  rw [hd, List.replicate_succ, List.set_cons_zero, show K - (i + 1) = d by omega, List.replicate_succ', List.append_assoc]
  rfl
theorem fillL_all (K : Nat) : fillL K K = List.replicate K 201 := by unfold fillL; rw [Nat.sub_self]; simp

set_option maxRecDepth 100000 in
set_option maxHeartbeats 6400000 in
theorem walk (n m F C x : Int) (A : Option Addr) (bs : List Int) (cb : Nat) (w : World) (hn : (Lit.int .i64 n).wf = true) (hm : (Lit.int .i64 m).wf = true) (hF : (Lit.int .i64 F).wf = true) (hC : (Lit.int .i64 C).wf = true) (hx : (Lit.int .i64 x).wf = true) (hbl : bs.length ≤ cb) (hcm : cb ≤ maxLen) (hbo : Octets bs) (hr : Holds w w.heap.size .u8 A bs) :
    Calls Try.prog 5 #[.int .i64 n, .int .i64 m, .agg #[.int .i64 F, .int .i64 C], .int .i64 x, .slice A bs.length cb] w fun e w' => e = .returned (.bool true) ∧ Below w.heap.size w w' := by
  have GA : Hid (∀ W, Calls Try.prog 10 #[] W fun e w' => e = .returned (.bool true) ∧ Below W.heap.size W w') := Lib.hid (fun W => Prt.awake_any W)
  have hn := bounds_i64 hn
  have hm := bounds_i64 hm
  have hF := bounds_i64 hF
  have hC := bounds_i64 hC
  have hx := bounds_i64 hx
  have hB0 := Lib.hid (show Below w.heap.size w (w.alloc (.cells #[.int .i64 F, .int .i64 C] 25)) from (Below.refl _ _).alloc (Nat.le_refl _) _)
  by_cases hbad : n < 128 ∨ 512 < n ∨ m < 1 ∨ 40 < m ∨ 2000 < (bs.length : Int)
  · cases h1 : decide (n < 128) <;> (try cases h2 : decide ((512 : Int) < n)) <;> (try cases h3 : decide (m < 1)) <;> (try cases h4 : decide ((40 : Int) < m)) <;> (try cases h5 : decide ((2000 : Int) < (bs.length : Int)))
    all_goals first
      | (exfalso; simp only [decide_eq_false_iff_not] at h1 h2 h3 h4 h5; omega)
      | (clear hbad hr
         go_enter Try.func5, Try.ntmps5
         go_wp2_with (go_at_call 10; refine (GA.out _).mono ?_; rintro e w5 ⟨rfl, hb5⟩)
         go_ret
         exact ⟨rfl, hB0.out.trans (hb5.mono hB0.out.size)⟩)
  obtain ⟨N, rfl⟩ : ∃ N : Nat, n = (N : Int) := ⟨n.toNat, by omega⟩
  obtain ⟨M, rfl⟩ : ∃ M : Nat, m = (M : Int) := ⟨m.toNat, by omega⟩
  have h1 : decide ((N : Int) < 128) = false := decide_eq_false (by omega)
  have h2 : decide ((512 : Int) < (N : Int)) = false := decide_eq_false (by omega)
  have h3 : decide ((M : Int) < 1) = false := decide_eq_false (by omega)
  have h4 : decide ((40 : Int) < (M : Int)) = false := decide_eq_false (by omega)
  have h5 : decide ((2000 : Int) < (bs.length : Int)) = false := decide_eq_false (by omega)
  have GO := Lib.hid (fun W => on_any M F C W (by omega))
  have hbl2 : bs.length ≤ 2000 := by omega
  by_cases hth : IsThere M F C
  case neg =>
    rw [decide_eq_false hth] at GO
    clear hth hbad hn hm hr
    go_enter Try.func5, Try.ntmps5
    go_wp2_with (first
      | (go_at_call 15; refine (GO.out _).mono ?_; rintro e w3 ⟨rfl, hb3⟩; have B3 := hB0.out.trans (hb3.mono hB0.out.size))
      | (go_at_call 10; refine (GA.out _).mono ?_; rintro e w5 ⟨rfl, hb5⟩))
    go_ret
    exact ⟨rfl, B3.trans (hb5.mono B3.size)⟩
  case pos =>
    rw [decide_eq_true hth] at GO
    have HTH := Lib.hid hth
    obtain ⟨hf0, hc1, hcM, hfc⟩ := hth
    obtain ⟨T, hT⟩ : ∃ T : Nat, C * (N : Int) = (T : Int) := ⟨(C * (N : Int)).toNat, by have := Int.mul_nonneg (show 0 ≤ C by omega) (show 0 ≤ (N : Int) by omega); omega⟩
    obtain ⟨f, rfl⟩ : ∃ f : Nat, F = (f : Int) := ⟨F.toNat, by omega⟩
    have HNM : Hid (128 ≤ N ∧ N ≤ 512 ∧ 1 ≤ M ∧ M ≤ 40) := Lib.hid (by omega)
    obtain ⟨K, hK⟩ : ∃ K : Nat, N * M = K := ⟨_, rfl⟩
    have hKb : K ≤ 20480 := by rw [← hK]; exact Nat.mul_le_mul (show N ≤ 512 by omega) (show M ≤ 40 by omega)
    have hK1 : 1 ≤ K := by rw [← hK]; exact Nat.mul_pos (by omega) (by omega)
    have hKz : (N : Int) * (M : Int) = (K : Int) := by rw [← hK, Int.natCast_mul]
    have hl0 : ∀ s : Dv, s.size = N → s.count = M → Lies s f C T := fun s e1 e2 => ⟨hf0, hc1, by rw [e2]; omega, by rw [e1]; exact hT⟩
    have hl1 : ∀ s : Dv, s.size = N → s.count = M → Lies s 0 M K := fun s e1 e2 => ⟨by decide, by omega, by rw [e2]; omega, by rw [e1, Int.mul_comm]; exact hKz⟩
    have HL0 := Lib.hid hl0
    have HL1 := Lib.hid hl1
    have GN := Lib.hid (fun W => new_any (fun _ => True) N M W (by omega) (by omega) (by omega) (by omega))
    have GP := Lib.hid (fun W a mk mw (h : DvAt W (fun _ => True) a mk mw (Dv.new N M)) => open_any _ a mk mw f C (Dv.new N M) W h hF hC)
    have GP2 := Lib.hid (fun W a mk mw (h : DvAt W (fun _ => True) a mk mw (Dv.new N M)) => open_any _ a mk mw 0 M (Dv.new N M) W h (by decide) (by omega))
    have HR := Lib.hid hr
    have HKK := Lib.hid hK
    have HTT := Lib.hid hT
    have HS0 : Hid ((Dv.new N M).size = N ∧ (Dv.new N M).count = M ∧ (Dv.new N M).offs = 0 ∧ (Dv.new N M).wr = 0) := Lib.hid ⟨rfl, rfl, rfl, rfl⟩
    have HFR := Lib.hid (fill_read (N := N) (M := M) (by omega) (by omega) (by omega) (by omega))
    have HFW := Lib.hid (fun r => fill_writes (N := N) (M := M) (by omega) (by omega) (by omega) (by omega) (r := r))
    have HFN : Hid (Near (Dv.new N M) (wrS (Dv.new N M) 0 (List.replicate (N * M) 201) M)) := Lib.hid (wrS_near2 _ _ _ _ (by omega))
    rw [hK] at HFR HFW HFN
    obtain ⟨s0, hs0⟩ : ∃ s0, Dv.new N M = s0 := ⟨_, rfl⟩
    obtain ⟨s1, hs1⟩ : ∃ s1, wrS (Dv.new N M) 0 (List.replicate K 201) M = s1 := ⟨_, rfl⟩
    rw [hs1] at HFR HFN HFW
    rw [hs0] at GN GP GP2 HS0 HFN HFW
    clear hbad hr hl0 hl1 hK hs0 hs1 hT
    go_enter Try.func5, Try.ntmps5
    go_upto_region 8 with (first
      | (go_at_call 15; refine (GO.out _).mono ?_; rintro e w3 ⟨rfl, hb3⟩; have B3 := hB0.out.trans (hb3.mono hB0.out.size); have Y3 := (Block.new w 25 #[.int .i64 (f : Int), .int .i64 C]).below hb3 (by simp); have c0 := Y3.cell 0; have c1 := Y3.cell 1; clear hb3)
      | (go_at_call 13; refine (GN.out _).mono ?_; rintro e w4 ⟨a, mk, mw, rfl, D4, hb4, ga, gk, gw⟩; have B4 := B3.trans (hb4.mono B3.size); have Y4 := Y3.below hb4 Y3.lt; have hz3 := B3.size; clear c0 c1 Y3; have c0 := Y4.cell 0; have c1 := Y4.cell 1; clear hb4)
      | (have _t := D4; go_at_call 14; refine (GP.out _ _ _ _ D4).mono ?_; rintro e w5 ⟨hb5, hyes, -⟩; obtain ⟨p, -, he5, P5⟩ := hyes (by rw [HS0.out.2.1]; exact HTH.out); clear hyes; subst he5; have B5 := B4.trans (hb5.mono B4.size); have Y5 := Y4.below hb5 Y4.lt; have D5 := D4.below hb5; clear _t c0 c1 Y4 D4 hb5; have c0 := Y5.cell 0)
      | (have _t := D5; go_at_call 14; refine (GP2.out _ _ _ _ D5).mono ?_; rintro e w6 ⟨hb6, hyes, -⟩; obtain ⟨t, -, he6, P6⟩ := hyes (by rw [HS0.out.2.1]; exact ⟨by decide, by omega, by omega, by omega⟩); clear hyes; subst he6; have B6 := B5.trans (hb6.mono B5.size); have Y6 := Y5.below hb6 Y5.lt; have D6 := D5.below hb6; have Q6 : PartAt w6 p a f C := Block.below P5 hb6 (Block.lt P5); clear _t c0 Y5 D5 P5 hb6; have c0 := Y6.cell 0))
    clear GN GP GP2 GO
    go_upto_region 9 with (at_make; refine wpList_make_ints _ rfl _ _ _ rfl elem8 K K rfl rfl rfl rfl (Nat.le_refl _) (by omega) ?_; intro w7 own7 hb7 hz7)
    have T7 : Two7 w w7 a mk mw p t w6.heap.size f C M s0 (List.replicate K 0) := by
      have o7 := Own.mono own7 B6.size
      rw [show K = (List.replicate K (0 : Int)).length by rw [List.length_replicate]] at o7
      refine ⟨(D6.mono (J := fun b => b ≠ w6.heap.size) (fun g hg _ => by omega)).below hb7, Block.below Q6 hb7 (Block.lt Q6), Block.below P6 hb7 (Block.lt P6), B6.trans (hb7.mono B6.size), ?_, Y6.below hb7 Y6.lt, by omega, by omega, by omega, B6.size, hz7⟩
      rw [List.length_replicate] at o7 ⊢
      exact o7
    have HT7 := Lib.hid T7
    clear own7 hb7 hz7 T7 D6 P6 Q6 Y6 c0 B3 B4 B5 B6 ga gk gw hz3
    generalize w6.heap.size = g at *
    go_upto_region 10 with fail
    go_loopw [18] (fun q wr => ∃ i : Nat, i ≤ K ∧ q = .int .i64 i ∧ Two7 w wr a mk mw p t g f C M s0 (fillL K i)) (fun q _ => K - (intOf q).toNat)
    case atStart => exact ⟨0, Nat.zero_le _, rfl, by unfold fillL; exact HT7.out⟩
    case round =>
      clear HT7
      obtain ⟨i, hi, rfl, P⟩ := hrel
      have hlen := fillL_length hi
      by_cases hlt : i < K
      · have d0 : decide (i < K) = true := decide_eq_true hlt
        have hc := P.o.cellAt rfl (i := i) (by omega)
        have hfz := P.o.frozenAt rfl i
        have P2 := P.set_ i 201 (by omega)
        rw [fillL_set hlt] at P2
        have HP2 := Lib.hid P2
        clear P P2
        go_wp2_with fail
        go_roundw
        case rel => exact ⟨i + 1, by omega, by go_num, HP2.out⟩
        case measure => simp [intOf]; omega
      · obtain rfl : i = K := by omega
        have d0 : decide (i < i) = false := decide_eq_false hlt
        rw [fillL_all] at P
        have GW1 : Hid (∀ W, Two7 w W a mk mw p t g f C M s0 (List.replicate i 201) → Calls Try.prog 18 #[.pointer (some ⟨t, 0, none⟩), .int .i64 0, .slice (some ⟨g, 0, none⟩) i i] W (fun e w' => e = .returned (.int .i64 0) ∧ Two7 w w' a mk mw p t g f C M s1 (List.replicate i 201))) := Lib.hid (fun W h => by
          obtain ⟨A9, c9, he9, -, -, hh9⟩ := h.o.opened
          injection he9 with e1 e2 e3
          subst e1
          have := pwrite_any (fun b => b ≠ g) t a mk mw 0 M i s0 0 (some ⟨g, 0, none⟩) (List.replicate i 201) i W h.t h.d (fun b hb => by have := h.l.2.2.2.2; omega) (HL1.out s0 HS0.out.1 HS0.out.2.1) (by decide) (by rw [List.length_replicate]; omega) (by rw [List.length_replicate]; exact Nat.le_refl _) (by unfold maxLen; omega) (fun z hz => by rw [(List.mem_replicate.1 hz).2]; decide) hh9 (by rw [HS0.out.2.2.1]; decide) (by rw [HS0.out.2.2.2]; decide)
          rw [List.length_replicate] at this
          refine this.mono ?_
          rintro e w' ⟨r, hPW, rfl, D9, T9⟩
          obtain rfl := HFW.out r hPW
          exact ⟨rfl, h.turn D9 T9⟩)
        have GW2 : Hid (∀ W, Two7 w W a mk mw p t g f C M s1 (List.replicate i 201) → Calls Try.prog 18 #[.pointer (some ⟨p, 0, none⟩), .int .i64 x, .slice A bs.length cb] W (fun e w' => ∃ r : Int × Dv, PWrite s1 f T x bs r ∧ e = .returned (.int .i64 r.1) ∧ Two7 w w' a mk mw p t g f C M r.2 (List.replicate i 201))) := Lib.hid (fun W h => by
          refine (pwrite_any (fun b => b ≠ g) p a mk mw f C T s1 x A bs cb W h.p h.d (fun b hb => by have := h.l.2.2.2.2; omega) (HL0.out s1 HFR.out.2.1 HFR.out.2.2.1) hx (by omega) hbl hcm hbo ((HR.out.below h.b).more h.b.size) (by have := HFN.out.1; rw [HS0.out.2.2.1] at this; omega) (by have := HFN.out.2.1; rw [HS0.out.2.2.2] at this; omega)).mono ?_
          rintro e w' ⟨r, hPW, rfl, D9, T9⟩
          exact ⟨r, hPW, rfl, h.turn D9 T9⟩)
        have GR3 : Hid (∀ W r, PWrite s1 f T x bs r → Two7 w W a mk mw p t g f C M r.2 (List.replicate i 201) → Calls Try.prog 23 #[.pointer (some ⟨t, 0, none⟩), .int .i64 0, .int .i64 i] W (fun e w' => ∃ q : List Int × Int, ((r.1 ≠ 0 ∧ q = (List.replicate i 201, 0)) ∨ (r.1 = 0 ∧ 0 ≤ x ∧ x + bs.length ≤ T ∧ q.2 = 0 ∧ q.1.length = i ∧ ∀ j, j < i → q.1.getD j 0 = wantB N f x.toNat bs j)) ∧ GivesB q.1 q.2 W e w')) := Lib.hid (fun W r hPW h => by
          have hnr := pwrite_near (s := s1) (by rw [HFR.out.2.1]; have := HNM.out.1; omega) hbl2 hPW
          have hz2 : r.2.size = N := hnr.2.2.1.trans HFR.out.2.1
          have hc2 : r.2.count = M := hnr.2.2.2.trans HFR.out.2.2.1
          refine (pread_any (fun b => b ≠ g) t a mk mw 0 M i r.2 0 i W h.t h.d (HL1.out r.2 hz2 hc2) (by decide)).mono ?_
          rintro e w' ⟨q, hq, hg⟩
          rw [← HKK.out] at hq
          have := back_reads HNM.out.1 HFR.out.1 HFR.out.2.1 HFR.out.2.2.1 HFR.out.2.2.2 (HL0.out s1 HFR.out.2.1 HFR.out.2.2.1) hPW hq
          rw [HKK.out, Int.toNat_natCast] at this
          exact ⟨q, this, hg⟩)
        clear hlt hlen hi
        have HRB := Lib.hid (fun W (hb : Below w.heap.size w W) => (HR.out.below hb).more hb.size)
        go_upto_region 17 with (first
          | (have _t := P; go_at_call 18; refine (GW1.out _ P).mono ?_; rintro e w8 ⟨rfl, P8⟩; clear _t P)
          | (have _t := P8; go_at_call 18; refine (GW2.out _ P8).mono ?_; rintro e w9 ⟨r, hPW, rfl, P9⟩; clear _t P8)
          | (have _t := P9; go_at_call 23; refine (GR3.out _ r hPW P9).mono ?_; rintro e w10 ⟨q, hq, v10, rfl, own10, hb10⟩; have P10 := P9.below hb10; clear _t P9 hb10))
        obtain ⟨E1, s2⟩ := r
        obtain ⟨ys, E⟩ := q
        simp only at hq own10 ⊢
        have hTK : T ≤ i := by
          have h1 : C * (N : Int) ≤ (M : Int) * (N : Int) := Int.mul_le_mul_of_nonneg_right (by omega) (by omega)
          rw [HTT.out, Int.mul_comm, hKz] at h1
          omega
        clear GW1 GW2 GR3 hPW HL0 HL1
        rcases hq with ⟨hr1, hq⟩ | ⟨rfl, hx0, hxT, rfl, hyl, hget⟩
        · injection hq with hq1 hq2
          subst hq1 hq2
          have b0 : (E1 != 0) = true := by simpa using hr1
          obtain ⟨g9, c9, hv9, -, -, -, -⟩ := own10.form (by rw [List.length_replicate]; omega)
          obtain ⟨A9, c9', he9, -, -, hh9⟩ := own10.opened
          obtain ⟨A8, c8, he8, -, -, hh8⟩ := P10.o.opened
          have kc1 := conv_bytes (P := Try.prog) Try.underlying51 Try.underlying5 Try.underlying9 w10 A9 (List.replicate i 201) c9' _ hh9
          have kc2 := conv_bytes (P := Try.prog) Try.underlying51 Try.underlying5 Try.underlying9 w10 A8 (List.replicate i 201) c8 _ hh8
          rw [← he9] at kc1
          rw [← he8] at kc2
          subst hv9
          rw [List.length_replicate] at kc1 kc2 ⊢
          generalize strOfNums (List.replicate i 201) = SS at *
          have hbe := P10.b
          clear P10 own10 hh9 hh8 he9 he8 hr1
          go_wp2_with (go_at_call 10; refine (GA.out _).mono ?_; rintro e w5 ⟨rfl, hb5⟩)
          go_ret
          exact ⟨rfl, hbe.trans (hb5.mono hbe.size)⟩
        · obtain ⟨X, rfl⟩ : ∃ X : Nat, x = (X : Int) := ⟨x.toNat, by omega⟩
          rw [Int.toNat_natCast] at hget
          obtain ⟨g9, c9, hv9, hg9a, hg9b, hc9, -⟩ := own10.form (by omega)
          subst hv9
          have y0 := P10.y.cell 0
          obtain ⟨fN, hfN⟩ : ∃ fN : Nat, f * N = fN := ⟨_, rfl⟩
          have hfNz : (f : Int) * (N : Int) = (fN : Int) := by rw [← hfN, Int.natCast_mul]
          obtain ⟨L, hL⟩ : ∃ L, bs.length = L := ⟨_, rfl⟩
          obtain ⟨q1, hq1⟩ : ∃ q1, manyP N bs = q1 := ⟨_, rfl⟩
          obtain ⟨en, hen⟩ : ∃ en, q1 * N = en := ⟨_, rfl⟩
          have hen1 : (q1 : Int) * (N : Int) = (en : Int) := by rw [← hen, Int.natCast_mul]
          have hmn : (L + N - 1) / N = q1 := by rw [← hq1, ← hL]; rfl
          have hdv : ((L : Int) + (N : Int) - 1) / (N : Int) = (q1 : Int) := by
            rw [← hmn, Int.natCast_ediv]
            congr 1
            have := HNM.out.1
            omega
          have hqL : q1 ≤ L := by rw [← hq1, ← hL]; exact manyP_le (by have := HNM.out.1; omega) bs
          have hfT : fN ≤ 20480 := by
            have h1 : (f : Int) * (N : Int) ≤ (M : Int) * (N : Int) := Int.mul_le_mul_of_nonneg_right (by omega) (by omega)
            rw [hfNz, Int.mul_comm, hKz] at h1
            omega
          obtain ⟨F1, hF1⟩ : ∃ F1 : Nat, fN + X = F1 := ⟨_, rfl⟩
          have hF1z : (fN : Int) + (X : Int) = (F1 : Int) := by omega
          have hL2 : L ≤ 2000 := by omega
          have hN2 : N ≤ 512 := HNM.out.2.1
          have hN1 : 128 ≤ N := HNM.out.1
          have henb : en ≤ 1024000 := by
            rw [← hen]
            exact Nat.mul_le_mul (show q1 ≤ 2000 by omega) hN2
          have hX2 : X ≤ 20480 := by omega
          have hcell : Hid (∀ j, j < i → w10.cell? ⟨g9, j, none⟩ = some (.int .u8 (if F1 ≤ j ∧ j < F1 + L then bs.getD (j - F1) 0 else if F1 ≤ j ∧ j < F1 + en then 0 else 201))) := Lib.hid (fun j hj => by
            have h1 := own10.cellAt rfl (i := j) (by omega)
            have h2 := hget j hj
            unfold wantB at h2
            rw [hfN, hF1, hL, hq1, hen] at h2
            rw [← h2]
            exact h1)
          have hBS := Lib.hid (HRB.out w10 P10.b)
          have hbe := P10.b
          rw [hyl, hL]
          have HL := Lib.hid hL
          clear own10 hget P10 hfN hL hq1 hen hmn hF1 hyl hxT hqL
          go_upto_region 24 with fail
          clear y0 hfNz hen1 hdv hF1z
          go_loop [24] (fun v => ∃ j : Nat, j ≤ i ∧ v = .int .i64 j) (fun v => i - (intOf v).toNat)
          case atStart => exact ⟨0, Nat.zero_le _, rfl⟩
          case round =>
            obtain ⟨j, hj, rfl⟩ := hrel
            by_cases hlt : j < i
            · have d0 : decide (j < i) = true := decide_eq_true hlt
              have hc := hcell.out j hlt
              by_cases hf1 : F1 ≤ j
              · have d1 : decide (F1 ≤ j) = true := decide_eq_true hf1
                by_cases hf2 : j < F1 + L
                · rw [if_pos ⟨hf1, hf2⟩] at hc
                  have d2 : decide ((j : Int) < (F1 : Int) + (L : Int)) = true := decide_eq_true (by omega)
                  have d2' : decide (j < F1 + L) = true := decide_eq_true hf2
                  obtain ⟨k, hk⟩ : ∃ k : Nat, j - F1 = k := ⟨_, rfl⟩
                  have hsub : (j : Int) - (F1 : Int) = (k : Int) := by omega
                  have hkL : k < L := by omega
                  rw [hk] at hc
                  obtain ⟨b1, o1, rfl, -, hcb⟩ := hBS.out (by rw [HL.out]; omega)
                  have hc2 := hcb k (by rw [HL.out]; omega)
                  clear hcb hk
                  generalize bs.getD k 0 = zv at hc hc2
                  go_wp2_with fail
                  go_round
                  case rel => exact ⟨j + 1, by omega, by go_num⟩
                  case measure => simp [intOf]; omega
                · have d2 : decide ((j : Int) < (F1 : Int) + (L : Int)) = false := decide_eq_false (by omega)
                  have d2' : decide (j < F1 + L) = false := decide_eq_false hf2
                  rw [if_neg (fun h => hf2 h.2)] at hc
                  by_cases hf3 : j < F1 + en
                  · rw [if_pos ⟨hf1, hf3⟩] at hc
                    have d3 : decide ((j : Int) < (F1 : Int) + (en : Int)) = true := decide_eq_true (by omega)
                    have d3' : decide (j < F1 + en) = true := decide_eq_true hf3
                    go_wp2_with fail
                    go_round
                    case rel => exact ⟨j + 1, by omega, by go_num⟩
                    case measure => simp [intOf]; omega
                  · rw [if_neg (fun h => hf3 h.2)] at hc
                    have d3 : decide ((j : Int) < (F1 : Int) + (en : Int)) = false := decide_eq_false (by omega)
                    have d3' : decide (j < F1 + en) = false := decide_eq_false hf3
                    go_wp2_with fail
                    go_round
                    case rel => exact ⟨j + 1, by omega, by go_num⟩
                    case measure => simp [intOf]; omega
              · have d1 : decide (F1 ≤ j) = false := decide_eq_false hf1
                rw [if_neg (fun h => hf1 h.1), if_neg (fun h => hf1 h.1)] at hc
                go_wp2_with fail
                go_round
                case rel => exact ⟨j + 1, by omega, by go_num⟩
                case measure => simp [intOf]; omega
            · have d0 : decide (j < i) = false := decide_eq_false hlt
              go_wp2_with (go_at_call 10; refine (GA.out _).mono ?_; rintro e w5 ⟨rfl, hb5⟩)
              go_ret
              exact ⟨rfl, hbe.trans (hb5.mono hbe.size)⟩
end Go.Proofs.Ytchbgmpkdkecgaa.PartBack
