/-
  Layer 14: the index of a text: New, Longest: contracts. Conditions: as each theorem names.
-/
import Derived.Test.YtlcnbepldkbkgaaMSxD
namespace Go.Proofs.Ytlcnbepldkbkgaa.Sx
open Go.ChangeShapes Go.WideShapes Go.ChangeAt Go.RowKit Go.Proofs.Ytlcnbepldkbkgaa.Kit

/-- An index: its struct at g; it holds the text b, and its suffixes in the order T. -/
structure IdxAt (w : World) (g : Nat) (b : List Int) (T : Nat → Nat) : Prop where
  s : ∃ (At : Option Addr) (ct go B : Nat), Block w g 63 #[.slice At b.length ct, .slice (some ⟨go, 0, none⟩) b.length b.length] ∧ b.length ≤ ct ∧ Holds w w.heap.size .u8 At b ∧ OwnF w B go b.length b.length (fun p => (T p : Int))
  ok : SaOk b T
theorem IdxAt.below {w w' : World} {g : Nat} {b : List Int} {T : Nat → Nat} (h : IdxAt w g b T) (hb : Below w.heap.size w w') : IdxAt w' g b T := by
  obtain ⟨At, ct, go, B, h1, h2, h3, h4⟩ := h.s
  exact ⟨⟨At, ct, go, B, h1.below hb h1.lt, h2, (h3.below hb).more hb.size, Own.below h4 hb⟩, h.ok⟩
theorem IdxAt.drewN {w : World} {g : Nat} {b : List Int} {T : Nat → Nat} (h : IdxAt w g b T) (m : Nat) : IdxAt (w.drewN m) g b T := h.below ⟨rfl, rfl, rfl, Nat.le_refl _, fun _ _ => rfl⟩
theorem holds_tail {w : World} {B : Nat} {k : IntKind} {b off : Nat} {xs : List Int} (h : Holds w B k (some ⟨b, off, none⟩) xs) (p : Nat) : Holds w B k (some ⟨b, off + p, none⟩) (xs.drop p) := by
  intro hx
  rw [List.length_drop] at hx
  obtain ⟨b2, o2, hA, hb, hc⟩ := h (by omega)
  injection hA with hA
  injection hA with e1 e2
  subst e1 e2
  refine ⟨b, off + p, rfl, hb, fun j hj => ?_⟩
  rw [List.length_drop] at hj
  rw [Nat.add_assoc, hc (p + j) (by omega)]
  simp [List.getD, List.getElem?_drop]

set_option maxRecDepth 100000 in
set_option maxHeartbeats 6400000 in
theorem test_any {w : World} {g p1 p2 : Nat} {b q : List Int} {T : Nat → Nat} {Aq : Option Addr} {cq : Nat} (h : IdxAt w g b T) (h1 : w.cell? ⟨p1, 0, none⟩ = some (.pointer (some ⟨g, 0, none⟩))) (h2 : w.cell? ⟨p2, 0, none⟩ = some (.slice Aq q.length cq))
    (hq : Holds w w.heap.size .u8 Aq q) (hn : b.length ≤ 1000000) {u : Nat} (hu : u < b.length) :
    Calls Try.prog 31 #[.int .i64 u, .pointer (some ⟨p1, 0, none⟩), .pointer (some ⟨p2, 0, none⟩)] w fun e w' => e = .returned (.bool (geS b T q u)) ∧ ∃ m, w' = w.drewN m := by
  obtain ⟨At, ct, go, B, k1, k2, k3, k4⟩ := h.s
  obtain ⟨bt, ot, rfl, -, -⟩ := k3 (by omega)
  have hT := h.ok.pm.lt u hu
  have c0 := k1.cell 0
  have c1 := k1.cell 1
  have c2 := k4.cell hu
  have HC := Lib.hid (fun m : Nat => compare_any (w := w.drewN m) (some ⟨bt, ot + T u, none⟩) Aq (b.drop (T u)) q (ct - T u) cq (holds_tail k3 (T u)) hq)
  obtain ⟨D, hD⟩ : ∃ D, geS b T q u = D := ⟨_, rfl⟩
  have HD := Lib.hid hD
  rw [hD]
  unfold geS at HD
  obtain ⟨n, hnn⟩ : ∃ n, b.length = n := ⟨_, rfl⟩
  have hdl : (b.drop (T u)).length = n - T u := by rw [List.length_drop, hnn]
  rw [hdl] at HC
  generalize Lib.compareBytes (Lib.bytesOf (b.drop (T u))) (Lib.bytesOf q) = z at *
  rw [hnn] at hn hu c0 c1 hT k2
  generalize T u = t at *
  have i1 : (u : Int) < (n : Int) := by omega
  have i2 : (t : Int) ≤ (n : Int) := by omega
  have i3 : ¬ ct = t := by omega
  clear h k1 k3 k4 hD hdl hq hnn
  go_enter Try.func31, Try.ntmps31
  go_wp2_with fail
  go_quiet ((go_at_call 32; exact Calls.quiet_of_same ((HC.out _).mono fun _ _ h => ⟨h.1, h.2.symm⟩)))
  go_wp2_with fail
  go_ret
  have e := HD.out
  subst e
  exact ⟨rfl, _, rfl⟩

theorem elem8 : IntElem Try.prog 22 5 .u8 1 := ⟨by kernel_rfl, by kernel_rfl, by decide⟩
set_option maxRecDepth 100000 in
set_option maxHeartbeats 6400000 in
theorem new_any (A : Option Addr) (b : List Int) (c : Nat) (w : World) (hn : b.length ≤ 1000000) (ho : Octets b) (hr : Holds w w.heap.size .u8 A b) :
    Calls Try.prog 23 #[.slice A b.length c] w fun e w' => ∃ (g : Nat) (T : Nat → Nat), e = .returned (.tuple #[.pointer (some ⟨g, 0, none⟩), .int .i64 0]) ∧ IdxAt w' g b T ∧ Below w.heap.size w w' := by
  have d1 : decide ((2147483647 : Int) < (b.length : Int)) = false := decide_eq_false (by omega)
  have HR := Lib.hid hr
  have HS := Lib.hid (fun W (hb : Below w.heap.size w W) => sorted_any A b c W hn ho ((hr.below hb).more hb.size))
  clear hr ho
  go_enter Try.func23, Try.ntmps23
  go_wp2_with (first
    | (at_builtin; refine wpList_append_ints _ rfl _ _ _ rfl elem8 (xs := []) (ys := b) (B := w.heap.size) (Own.nil _ _ _ _) rfl rfl HR.out (by simp; omega) (Nat.le_refl _) ?_; intro v1 w1 o1 g1 b1 _; rw [List.nil_append] at o1; obtain ⟨A1, cc, rfl, hcc, _, hh⟩ := o1.opened; have HO := Lib.hid o1; have HB := Lib.hid b1; have HS2 := Lib.hid (HS.out _ b1); clear o1 g1 b1)
    | (go_at_call 29; have _t := HS2; clear _t; refine HS2.out.mono ?_; rintro e w2 ⟨go, T, rfl, hok, oT, b2⟩; have HOK := Lib.hid hok; have HOT := Lib.hid oT; have HB2 := Lib.hid b2; clear hok oT b2))
  go_ret2
  have bb := HB.out.trans (HB2.out.mono HB.out.size)
  have b3 := Below.refl w2.heap.size w2 |>.alloc (Nat.le_refl _) (.cells #[.slice A1 b.length cc, .slice (some ⟨go, 0, none⟩) b.length b.length] 63)
  refine ⟨w2.heap.size, T, rfl, ⟨⟨A1, cc, go, w1.heap.size, Block.new w2 _ _, hcc, ?_, Own.alloc HOT.out _⟩, HOK.out⟩, bb.alloc bb.size _⟩
  exact (((hh.below HB2.out).more HB2.out.size).below b3).more b3.size

set_option maxRecDepth 100000 in
set_option maxHeartbeats 12800000 in
theorem longest_any {w : World} {g : Nat} {b q : List Int} {T : Nat → Nat} (Aq : Option Addr) (cq : Nat) (h : IdxAt w g b T) (hq : Holds w w.heap.size .u8 Aq q) (hn : b.length ≤ 1000000) (hl : q.length ≤ 1000000) (hb : Bytes8 b) (hq8 : Bytes8 q) :
    Calls Try.prog 24 #[.pointer (some ⟨g, 0, none⟩), .slice Aq q.length cq] w fun e w' => ∃ at_ most : Nat, e = .returned (.tuple #[.int .i64 at_, .int .i64 most]) ∧ FoundB b q at_ most ∧ Below w.heap.size w w' := by
  have N1 := Block.new w 51 #[.pointer (some ⟨g, 0, none⟩)]
  have N2 := Block.new (w.alloc (.cells #[.pointer (some ⟨g, 0, none⟩)] 51)) 22 #[.slice Aq q.length cq]
  have hsz : (w.alloc (.cells #[.pointer (some ⟨g, 0, none⟩)] 51)).heap.size = w.heap.size + 1 := by simp
  rw [hsz] at N2
  have BW : Below w.heap.size w ((w.alloc (.cells #[.pointer (some ⟨g, 0, none⟩)] 51)).alloc (.cells #[.slice Aq q.length cq] 22)) := ((Below.refl w.heap.size w).alloc (Nat.le_refl _) _).alloc (by simp) _
  have q1 := (N1.alloc (.cells #[.slice Aq q.length cq] 22)).cell 0
  have q2 := N2.cell 0
  go_enter Try.func24, Try.ntmps24
  go_upto_region 1 with fail
  obtain ⟨W, hW⟩ : ∃ W, W = ((w.alloc (.cells #[.pointer (some ⟨g, 0, none⟩)] 51)).alloc (.cells #[.slice Aq q.length cq] 22)) := ⟨_, rfl⟩
  rw [← hW] at BW q1 q2 ⊢
  have hx := h.below BW
  have hqW := (hq.below BW).more BW.size
  have q1' : W.cell? ⟨w.heap.size, 0, none⟩ = some (.pointer (some ⟨g, 0, none⟩)) := q1
  have q2' : W.cell? ⟨w.heap.size + 1, 0, none⟩ = some (.slice Aq q.length cq) := q2
  obtain ⟨At, ct, go, B, k1, k2, k3, k4⟩ := hx.s
  have c0 := k1.cell 0
  have c1 := k1.cell 1
  have HSE := Lib.hid (search_any (w := W) (n := b.length) (p := geS b T q) (c1 := .pointer (some ⟨w.heap.size, 0, none⟩)) (c2 := .pointer (some ⟨w.heap.size + 1, 0, none⟩)) hn (fun u v huv hv hu => geS_mono hb hq8 h.ok huv hv hu)
    (fun u hu m => (test_any (w := W.drewN m) (hx.drewN m) q1' q2' hqW hn hu).mono (fun e w' hh => ⟨hh.1, by obtain ⟨m2, rfl⟩ := hh.2; exact ⟨m + m2, World.drewN_drewN _ _ _⟩⟩)))
  have HNM := Lib.hid (fun k m (hk : LeastAt b.length (geS b T q) k) => near_most (m := m) hb hq8 h.ok hk)
  have HT : Hid (∀ u, u < b.length → T u < b.length) := Lib.hid h.ok.pm.lt
  have HBW := Lib.hid BW
  have HCM : Hid (∀ u, u < b.length → ∃ bt ot : Nat, At = some ⟨bt, ot, none⟩ ∧ ∀ m : Nat, Calls Try.prog 33 #[.slice (some ⟨bt, ot + T u, none⟩) (b.length - T u) (ct - T u), .slice Aq q.length cq] (W.drewN m) fun e w' => e = .returned (.int .i64 (comL (b.drop (T u)) q)) ∧ ∃ m2, w' = (W.drewN m).drewN m2) := Lib.hid (fun u hu => by
    obtain ⟨bt, ot, rfl, -, -⟩ := k3 (by omega)
    refine ⟨bt, ot, rfl, fun m => ?_⟩
    have hh := common_any (w := W.drewN m) (some ⟨bt, ot + T u, none⟩) Aq (b.drop (T u)) q (ct - T u) cq (holds_tail k3 (T u)) hqW (by simp; omega) hl
    rw [List.length_drop] at hh
    exact hh)
  have HO := Lib.hid (fun u (hu : u < b.length) => k4.cell hu)
  have HZ : Hid (∀ u, u < b.length → comL (b.drop (T u)) q ≤ 1000000) := Lib.hid (fun u _ => by have := (comL_le (b.drop (T u)) q).2; omega)
  obtain ⟨com, hcom⟩ : ∃ com : Nat → Nat, (fun u => comL (b.drop (T u)) q) = com := ⟨_, rfl⟩
  have HCO : Hid (∀ u, comL (b.drop (T u)) q = com u) := Lib.hid (fun u => by rw [← hcom])
  obtain ⟨n, hnn⟩ : ∃ n, b.length = n := ⟨_, rfl⟩
  have HN := Lib.hid hnn
  rw [hnn] at c0 c1 HSE hn HT HCM HO HZ k2 HNM
  have HFO : Hid (∀ at_ most : Nat, (0 < most → ∃ u, u < n ∧ at_ = T u ∧ com u = most) → (most = 0 → at_ = 0) → (∀ i, i < n → comL (b.drop i) q ≤ most) → FoundB b q at_ most) := Lib.hid (fun at_ most h1 h2 h3 => ⟨fun h => by
    obtain ⟨u, hu, rfl, e⟩ := h1 h
    exact ⟨by rw [HN.out]; exact HT.out u hu, (HCO.out u).trans e⟩, h2, fun i hi => h3 i (by rw [← HN.out]; exact hi)⟩)
  have HCM2 : Hid (∀ u, u < n → com u ≤ 1000000) := Lib.hid (fun u hu => by rw [← HCO.out u]; exact HZ.out u hu)
  clear h hq hqW hx k1 k3 k4 N1 N2 hsz BW hW hb hq8 q1 q2 hcom hnn
  go_upto_region 5 with (go_at_call 30; refine HSE.out.mono ?_; rintro e w1 ⟨⟨k, rfl, hk⟩, m, rfl⟩; have HK := Lib.hid hk; have hkn := hk.le; have HNB := Lib.hid (fun mm => HNM.out k mm hk); clear hk)
  go_cut [9] (fun v wx => v = .int .i64 ((k - 1 : Nat) : Int) ∧ wx = W.drewN m)
  case first =>
    by_cases h0 : k = 0
    · subst h0
      go_wp2_with fail
      go_meet
      exact ⟨rfl, rfl⟩
    · have e0 : (k : Int) - 1 = ((k - 1 : Nat) : Int) := by omega
      go_wp2_with fail
      go_meet
      exact ⟨rfl, rfl⟩
  case rest =>
  obtain ⟨rfl, rfl⟩ := hcut
  go_wp2_with fail
  go_loopw [7, 8, 9] (fun sa sm si wr => ∃ at_ most i : Nat, sa = .int .i64 at_ ∧ sm = .int .i64 most ∧ si = .int .i64 i ∧ k - 1 ≤ i ∧ i ≤ k + 1 ∧ (∀ u, k - 1 ≤ u → u < i → u < n → com u ≤ most) ∧ (0 < most → ∃ u, u < n ∧ at_ = T u ∧ com u = most) ∧ (most = 0 → at_ = 0) ∧
    most ≤ 1000000 ∧ ∃ m, wr = W.drewN m) (fun _ _ si _ => k + 2 - (intOf si).toNat)
  case atStart => exact ⟨0, 0, k - 1, rfl, rfl, rfl, Nat.le_refl _, by omega, fun u h1 h2 => absurd h1 (by omega), fun h => absurd h (by omega), fun _ => rfl, by omega, m, rfl⟩
  case round =>
    clear HSE HK HNM
    obtain ⟨at_, most, i, rfl, rfl, rfl, hi1, hi2, hall, hat, hz, hm6, m3, hm⟩ := hrel
    have HALL := Lib.hid hall
    have HAT := Lib.hid hat
    have HZ0 := Lib.hid hz
    have HM := Lib.hid hm
    have r1 : wr.cell? ⟨w.heap.size, 0, none⟩ = some (.pointer (some ⟨g, 0, none⟩)) := by rw [hm]; exact q1'
    have r2 : wr.cell? ⟨w.heap.size + 1, 0, none⟩ = some (.slice Aq q.length cq) := by rw [hm]; exact q2'
    have r3 : wr.cell? ⟨g, 0, none⟩ = some (.slice At n ct) := by rw [hm]; exact c0
    have r4 : wr.cell? ⟨g, 1, none⟩ = some (.slice (some ⟨go, 0, none⟩) n n) := by rw [hm]; exact c1
    clear hall hat hz q1' q2' c0 c1
    by_cases hik : i ≤ k
    · have d1 : decide ((i : Int) ≤ (k : Int)) = true := decide_eq_true (by omega)
      by_cases hin : i < n
      · have d2 : decide ((i : Int) < (n : Int)) = true := decide_eq_true (by omega)
        obtain ⟨bt, ot, rfl, hc⟩ := HCM.out i hin
        have r5 : wr.cell? ⟨go, i, none⟩ = some (.int .i32 (T i)) := by rw [hm]; exact HO.out i hin
        have hTi := HT.out i hin
        have HC := Lib.hid (fun x : Nat => hc (m3 + x))
        simp only [HCO.out i, ← World.drewN_drewN, ← hm] at HC
        have hcb := HCM2.out i hin
        have i1 : (i : Int) < (n : Int) := by omega
        have i2 : ((T i : Nat) : Int) ≤ (n : Int) := by omega
        have i3 : ¬ ct = T i := by omega
        have HNX : Hid (∀ x, com i ≤ x → most ≤ x → ∀ u, k - 1 ≤ u → u < i + 1 → u < n → com u ≤ x) := Lib.hid (fun x h1 h2 u a1 a2 a3 => by
          by_cases e : u = i
          · subst e; exact h1
          · exact Nat.le_trans (HALL.out u a1 (by omega) a3) h2)
        have HTI : Hid (∃ u, u < n ∧ T i = T u ∧ com u = com i) := Lib.hid ⟨i, hin, rfl, rfl⟩
        generalize com i = cc at *
        generalize T i = t at *
        clear hc hm
        by_cases hgt : most < cc
        · have d3 : decide ((most : Int) < (cc : Int)) = true := decide_eq_true (by omega)
          have d4 : decide (most < cc) = true := decide_eq_true hgt
          have HNX2 := Lib.hid (HNX.out cc (Nat.le_refl _) (by omega))
          go_wp2_with fail
          go_quiet ((go_at_call 33; exact Calls.quiet_of (HC.out _)))
          go_wp2_with fail
          go_roundw
          case rel => exact ⟨t, cc, i + 1, rfl, rfl, by go_num, by omega, by omega, HNX2.out, fun _ => HTI.out, fun h => absurd h (by omega), hcb, m3 + nq, by rw [HM.out, World.drewN_drewN]⟩
          case measure => simp [intOf] <;> omega
        · have d3 : decide ((most : Int) < (cc : Int)) = false := decide_eq_false (by omega)
          have d4 : decide (most < cc) = false := decide_eq_false hgt
          have HNX2 := Lib.hid (HNX.out most (by omega) (Nat.le_refl _))
          go_wp2_with fail
          go_quiet ((go_at_call 33; exact Calls.quiet_of (HC.out _)))
          go_wp2_with fail
          go_roundw
          case rel => exact ⟨at_, most, i + 1, rfl, rfl, by go_num, by omega, by omega, HNX2.out, HAT.out, HZ0.out, hm6, m3 + nq, by rw [HM.out, World.drewN_drewN]⟩
          case measure => simp [intOf] <;> omega
      · have d2 : decide ((i : Int) < (n : Int)) = false := decide_eq_false (by omega)
        have HEND : Hid (∀ j, j < n → comL (b.drop j) q ≤ most) := Lib.hid (HNB.out most (fun h => by rw [HCO.out]; exact HALL.out (k - 1) (Nat.le_refl _) (by omega) (by omega)) (fun h => by rw [HCO.out]; exact HALL.out k (by omega) (by omega) h))
        have HF := Lib.hid (HFO.out at_ most HAT.out HZ0.out HEND.out)
        clear hm
        go_wp2_with fail
        go_ret2
        exact ⟨at_, most, rfl, HF.out, by rw [HM.out]; exact below_draws HBW.out m3⟩
    · have d1 : decide ((i : Int) ≤ (k : Int)) = false := decide_eq_false (by omega)
      have HEND : Hid (∀ j, j < n → comL (b.drop j) q ≤ most) := Lib.hid (HNB.out most (fun h => by rw [HCO.out]; exact HALL.out (k - 1) (Nat.le_refl _) (by omega) (by omega)) (fun h => by rw [HCO.out]; exact HALL.out k (by omega) (by omega) h))
      have HF := Lib.hid (HFO.out at_ most HAT.out HZ0.out HEND.out)
      clear hm
      go_wp2_with fail
      go_ret2
      exact ⟨at_, most, rfl, HF.out, by rw [HM.out]; exact below_draws HBW.out m3⟩
end Go.Proofs.Ytlcnbepldkbkgaa.Sx
