/-
  Layer 11, lz.matches: a contract. Conditions: as each theorem names.
-/
import Derived.Test.YthicgcgohpakgaaLzR
import Derived.Deep.DeepCutAuto
namespace Go.Proofs.Ythicgcgohpakgaa.Lz
open Go.ChangeShapes Go.WideShapes Go.ChangeAt Go.RowKit Go.Maps Go.Proofs.Ythicgcgohpakgaa.Kit

theorem or_bd (a b : Int) : 0 ≤ bits BinOp.or .u32 a b ∧ bits BinOp.or .u32 a b < 4294967296 := by
  unfold bits
  rw [IntKind.wrap_u32]
  omega
/-- The key of three bytes. -/
def keyE (x y z : Int) : Int := bits BinOp.or .u32 (bits BinOp.or .u32 (x * 65536) (y * 256)) z
def keyN (xs : List Int) (i : Nat) : Int := keyE (xs.getD i 0) (xs.getD (i + 1) 0) (xs.getD (i + 2) 0)
theorem alike_one {xs : List Int} {i j m n k : Nat} (h : Alike xs i j m n) (g : Alike xs i j m k) : n = k := by
  obtain ⟨h1, h2, h3⟩ := h
  obtain ⟨g1, g2, g3⟩ := g
  rcases Nat.lt_trichotomy n k with hl | hl | hl
  · exact absurd (g2 n hl) (h3 (by omega))
  · exact hl
  · exact absurd (h2 k hl) (g3 (by omega))
theorem grown_cells (w : World) (g i : Nat) (u : Value) : w.grownBy (w.setCell ⟨g, i, none⟩ u) (some g) := by
  have t : TurnsIn (fun b => b = g) w (w.setCell ⟨g, i, none⟩ u) := TurnsIn.setCell (S := fun b => b = g) (p := ⟨g, i, none⟩) (TurnsIn.refl _ w) (Or.inl rfl) u
  exact ⟨t.os, t.tape, t.output, t.size, fun j hj hne => t.block j hj (fun e => hne (by rw [e]))⟩
def Matches (K : Nat → Int) (xs : List Int) (tries : Int) (w : World) (e : Ending) (w' : World) : Prop :=
  ∃ (g : Nat) (ms : List (Nat × Nat)), e = .returned (.slice (some ⟨g, 0, none⟩) xs.length xs.length) ∧ MatAt w' g ms ∧ Found xs K tries ms ∧ Below w.heap.size w w'

set_option maxRecDepth 100000 in
set_option maxHeartbeats 25600000 in
theorem matches_any (A : Option Addr) (xs : List Int) (c : Nat) (tries : Int) (w : World) (hn : xs.length ≤ 3000) (ht : tries ≤ 1000) (ho : Octets xs) (hr : Holds w w.heap.size .u8 A xs) :
    Calls Try.prog 13 #[.slice A xs.length c, .int .i64 tries] w (Matches (keyN xs) xs tries w) := by
  obtain ⟨K, hK⟩ : ∃ K, keyN xs = K := ⟨_, rfl⟩
  rw [hK]
  have HK := Lib.hid hK
  clear hK
  have hmm := @run_makeMap Try.prog
  obtain ⟨n, hnn⟩ : ∃ n, xs.length = n := ⟨_, rfl⟩
  have HN := Lib.hid hnn
  have HO := Lib.hid ho
  unfold Matches
  rw [hnn] at hn ⊢
  clear hnn ho
  go_enter Try.func13, Try.ntmps13
  go_wp2_with (first
    | (at_make; refine wpList_make_mat rfl (.tmp 16) (.tmp 16) _ rfl Try.underlying38 n rfl rfl (by omega) ?_; intro w1 M1 b1 z1)
    | (have _t := M1; at_make; refine wpList_make_ints _ rfl (.tmp 20) (.tmp 20) _ rfl elemI n n rfl rfl rfl rfl (Nat.le_refl _) (by omega) ?_; clear _t; intro w2 O2 b2 z2))
  have N1 := NewestAt.made w1 K
  have B1 : Below w.heap.size w (w1.alloc (.map #[] 0)) := b1.alloc b1.size _
  have hz1 : (w1.alloc (.map #[] 0)).heap.size = w1.heap.size + 1 := by simp
  rw [hz1] at b2 O2
  have N2 : NewestAt w2 w1.heap.size 0 K 0 := N1.turn (b2.block _ (by omega))
  have M2 : MatAt w2 w.heap.size (List.replicate n (0, 0)) := Block.below (Block.alloc M1 _) b2 (by omega)
  have B2 : Below w.heap.size w w2 := B1.trans (b2.mono (by omega))
  have O2 := O2.mono (show w.heap.size ≤ w1.heap.size + 1 by omega)
  obtain ⟨g, hg⟩ : ∃ g, g = w.heap.size := ⟨_, rfl⟩
  obtain ⟨mb, hmb⟩ : ∃ mb, mb = w1.heap.size := ⟨_, rfl⟩
  rw [← hmb] at N2 O2 z1 ⊢
  rw [← hg] at M2 O2 B2 z1 hr ⊢
  have HG := Lib.hid hg
  have hgm : g < mb := z1
  clear hg hmb M1 N1 b1 b2 z2 hz1 B1 z1
  go_loopw [8] (fun v wr => ∃ (i : Nat) (ms : List (Nat × Nat)) (ah : List Int), v = .int .i64 i ∧ i ≤ n ∧ ms.length = n ∧ ah.length = n ∧ (∀ j, j < i → FoundAt xs K tries j (ms.getD j (0, 0))) ∧ (∀ j, i ≤ j → ms.getD j (0, 0) = (0, 0)) ∧ (∀ j : Nat, j < i → -1 ≤ ah.getD j 0 ∧ ah.getD j 0 < j) ∧ MatAt wr g ms ∧ NewestAt wr mb i K i ∧ Own wr g 3 .i64 (.slice (some ⟨mb + 1, 0, none⟩) n n) ah ∧ Below g w wr) (fun v _ => n - (intOf v).toNat)
  case atStart => exact ⟨0, _, _, rfl, Nat.zero_le _, by simp, by simp, fun j hj => absurd hj (by omega), fun j _ => by rw [List.getD, List.getElem?_replicate]; split <;> rfl, fun j hj => absurd hj (by omega), M2, N2, O2, B2⟩
  case round =>
    clear M2 N2 O2 B2
    obtain ⟨i, ms, ah, rfl, hin, hml, hal, hfo, hze, hah, M, N, O, B⟩ := hrel
    obtain ⟨wo, rfl⟩ : ∃ wo : World, wo = wr := ⟨_, rfl⟩
    have HML := Lib.hid hml
    have HAL := Lib.hid hal
    have HFO := Lib.hid hfo
    have HZE := Lib.hid hze
    have HAH := Lib.hid hah
    clear hml hal hfo hze hah
    by_cases h3 : i + 3 ≤ n
    · have d0 : decide ((i : Int) + 3 ≤ (n : Int)) = true := decide_eq_true (by omega)
      obtain ⟨b, off, rfl, hbg, hc⟩ := (hr.below B) (by rw [HN.out]; omega)
      have e0 := hc i (by rw [HN.out]; omega)
      have e1 := hc (i + 1) (by rw [HN.out]; omega)
      have e2 := hc (i + 2) (by rw [HN.out]; omega)
      have p1 : IntKind.i64.wrap ((i : Int) + 1) = ((i + 1 : Nat) : Int) := by rw [IntWalk.i64_in _ (by omega)]; omega
      have p2 : IntKind.i64.wrap ((i : Int) + 2) = ((i + 2 : Nat) : Int) := by rw [IntWalk.i64_in _ (by omega)]; omega
      have l0 : i < n := by omega
      have l1 : i + 1 < n := by omega
      have l2 : i + 2 < n := by omega
      have o0 : 0 ≤ xs.getD i 0 ∧ xs.getD i 0 ≤ 255 := HO.out.at_ i
      have o1 : 0 ≤ xs.getD (i + 1) 0 ∧ xs.getD (i + 1) 0 ≤ 255 := HO.out.at_ (i + 1)
      have o2 : 0 ≤ xs.getD (i + 2) 0 ∧ xs.getD (i + 2) 0 ≤ 255 := HO.out.at_ (i + 2)
      obtain ⟨x0, hx0⟩ : ∃ x, xs.getD i 0 = x := ⟨_, rfl⟩
      obtain ⟨x1, hx1⟩ : ∃ x, xs.getD (i + 1) 0 = x := ⟨_, rfl⟩
      obtain ⟨x2, hx2⟩ : ∃ x, xs.getD (i + 2) 0 = x := ⟨_, rfl⟩
      rw [hx0] at e0 o0
      rw [hx1] at e1 o1
      rw [hx2] at e2 o2
      have HX0 := Lib.hid hx0
      have HX1 := Lib.hid hx1
      have HX2 := Lib.hid hx2
      clear hx0 hx1 hx2 hc
      go_wp2_with fail
      go_quiet (fail)
      go_upto_region 8 with (fail)
      obtain ⟨key, hkey⟩ : ∃ key, bits BinOp.or .u32 (bits BinOp.or .u32 (x0 * 65536) (x1 * 256)) x2 = key := ⟨_, rfl⟩
      have hkb := or_bd (bits BinOp.or .u32 (x0 * 65536) (x1 * 256)) x2
      rw [hkey] at hkb ⊢
      have HKI : Hid (K i = key) := Lib.hid (by rw [← HK.out, ← hkey]; unfold keyN keyE; rw [HX0.out, HX1.out, HX2.out])
      clear hkey e0 e1 e2 p1 p2
      have hpb := lastK_bd K i key
      obtain ⟨wq, hwq⟩ : ∃ wq, wq = wo.drewN nq := ⟨_, rfl⟩
      have M : MatAt wq g ms := by rw [hwq]; exact Block.drewN M nq
      have N : NewestAt wq mb i K i := N.turn (by rw [hwq]; rfl)
      have O : Own wq g 3 .i64 (.slice (some ⟨mb + 1, 0, none⟩) n n) ah := by rw [hwq]; exact O.drewN nq
      have B : Below g w wq := by rw [hwq]; exact below_draws B nq
      rw [← hwq]
      clear hwq
      obtain ⟨D, hD, hDF⟩ := N
      have HDF := Lib.hid hDF
      have HDP := Lib.hid (newest_put hD.isMap HDF.out)
      rw [HKI.out] at HDP
      obtain ⟨p, hp⟩ : ∃ p, lastK K i key = p := ⟨_, rfl⟩
      have hD1 := (hDF key).1
      have hD2 := (hDF key).2
      rw [hp] at hpb hD1 hD2
      have HP := Lib.hid hp
      clear hp hDF
      have q0 := O.cellAt HAL.out.symm (i := i) (by rw [HAL.out]; exact l0)
      have f0 := O.frozenAt HAL.out.symm i
      generalize ah[i]?.getD 0 = y0 at q0
      obtain ⟨O1, gO1⟩ := O.stored HAL.out.symm i p
      have hD9 := hD.setCell (a := ⟨mb + 1, i, none⟩) (by show mb ≠ mb + 1; omega) (.int .i64 p)
      have B1 : Below g w (wq.setCell ⟨mb + 1, i, none⟩ (.int .i64 p)) := B.setCell (by show g ≤ mb + 1; omega) _
      have M1 : MatAt (wq.setCell ⟨mb + 1, i, none⟩ (.int .i64 p)) g ms := Block.far M (by show g ≠ mb + 1; omega) _
      obtain ⟨mst, hmst⟩ : ∃ mst, mostN xs i = mst := ⟨_, rfl⟩
      have hmb : mst ≤ 258 ∧ mst ≤ n - i ∧ (mst = 258 ∨ mst = n - i) := by rw [← hmst]; unfold mostN; rw [HN.out]; omega
      have HMST := Lib.hid hmst
      have hmi : (if (258 : Int) < (n : Int) - (i : Int) then (258 : Int) else (n : Int) - (i : Int)) = (mst : Int) := by split <;> omega
      have hm1 : 1 ≤ mst := by omega
      have him : i + mst ≤ n := by omega
      have hm258 := hmb.1
      clear hmst hmb
      have HI : Hid (ms.set i (0, 0) = ms) := Lib.hid (by
        refine List.ext_getElem? fun j => ?_
        rw [List.getElem?_set]
        split
        · rename_i hj
          subst hj
          have h1 := HZE.out i (Nat.le_refl _)
          have hl : i < ms.length := by rw [HML.out]; exact l0
          rw [if_pos hl, List.getElem?_eq_getElem hl]
          rw [List.getD, List.getElem?_eq_getElem hl] at h1
          exact congrArg some h1.symm
        · rfl)
      have HALL : Hid (∀ j : Nat, j < i + 1 → -1 ≤ (ah.set i p).getD j 0 ∧ (ah.set i p).getD j 0 < j) := Lib.hid (fun j hj => by
        rw [getD_set _ _ _ _ (by rw [HAL.out]; exact l0)]
        split
        · rename_i h; subst h; exact hpb
        · exact HAH.out j (by omega))
      have HLS : Hid ((ah.set i p).length = n) := Lib.hid (by rw [List.length_set]; exact HAL.out)
      have hset : ∃ ah2, ah.set i p = ah2 := ⟨_, rfl⟩
      obtain ⟨ah2, hah2⟩ := hset
      rw [hah2] at O1 HALL HLS
      clear hah2 O M N HAH HAL
      by_cases hp0 : 0 ≤ p
      case' pos => have e1 : Maps.has D (.int .u32 key) = true := (by rw [hD1]; exact decide_eq_true hp0); have HAT := Lib.hid (hD2 hp0)
      case' neg => have e1 : Maps.has D (.int .u32 key) = false := (by rw [hD1]; exact decide_eq_false hp0); obtain rfl : p = -1 := (by omega); have tokn : True := trivial
      all_goals
        clear hD1 hD2
        go_upto_region 14 with (first
          | (have _t := HAT; at_lookup; refine wpList_lookup_own_ok_int _ rfl (.tmp 51) (.tmp 52) 44 rfl 45 3 .i64 keyU Try.underlying44 Try.underlying3 (by kernel_rfl) mb i D rfl hD (.int .u32 key) (.int .u32 key) rfl (keyU_of hkb) ?_; clear _t; intro cc hat hwc; obtain rfl : p = cc := (by rw [HAT.out] at hat; injection hat with hat; injection hat); clear hat hwc)
          | (have _t := tokn; at_lookup; refine wpList_lookup_own_ok_int _ rfl (.tmp 51) (.tmp 52) 44 rfl 45 3 .i64 keyU Try.underlying44 Try.underlying3 (by kernel_rfl) mb i D rfl hD (.int .u32 key) (.int .u32 key) rfl (keyU_of hkb) ?_; clear _t; intro cc hat hwc; clear hat hwc)
          | (at_mapUpdate; refine wpList_mapUpdate_own _ rfl (.tmp 62) (.tmp 63) (.tmp 64) 44 rfl 45 3 keyU Try.underlying44 (plainElem Try.prog 3) mb i D rfl hD9 (by unfold maxLen; omega) (.int .u32 key) (.int .i64 i) (.int .u32 key) rfl rfl (keyU_of hkb) (.lit (.int .i64 i)) [] (plainElem_int Try.underlying3 (WalkArith.wf_i64 (by omega))) ?_; intro w3 hD3 g3))
        have N3 : NewestAt w3 mb (i + 1) K (i + 1) := ⟨_, hD3, HDP.out⟩
        have M3 : MatAt w3 g ms := Block.grown M1 g3 (by intro e; injection e with e; omega)
        have O3 := O1.kept g3 (.inr (by simp [Value.ownBlock]))
        have hsz := B1.size
        rw [← HG.out] at hsz
        have B3 : Below g w w3 := B1.trans (below_of_grown g3 hsz (fun b hb => by injection hb with hb; omega))
        clear hD hD9 hD3 B1 M1 O1 gO1 g3 hsz q0 f0 hmi e1
        go_wp2_with fail
        go_loopw [10, 13] (fun v x wr => ∃ (at_ : Int) (k : Nat) (m : Nat × Nat), v = .int .i64 at_ ∧ x = .int .i64 k ∧ -1 ≤ at_ ∧ at_ < i ∧ (k : Int) ≤ 1000 ∧ MatAt wr g (ms.set i m) ∧ MatchOk xs i m ∧ m.1 ≤ mst ∧ (k = 0 → m = (0, 0) ∧ at_ = lastK K i key) ∧ (0 < k → 1 ≤ tries ∧ ∀ n0, Alike xs (lastK K i key).toNat i mst n0 → n0 ≤ m.1) ∧ NewestAt wr mb (i + 1) K (i + 1) ∧ Own wr g 3 .i64 (.slice (some ⟨mb + 1, 0, none⟩) n n) ah2 ∧ Below g w wr) (fun _ x _ => (tries - intOf x).toNat)
        case atStart => exact ⟨_, 0, (0, 0), rfl, rfl, by omega, by omega, by omega, by rw [HI.out]; exact M3, .inl rfl, Nat.zero_le _, fun _ => ⟨rfl, HP.out.symm⟩, fun h => absurd h (by omega), N3, O3, B3⟩
        case round =>
          clear N3 M3 O3 B3
          obtain ⟨at_, k, m, rfl, rfl, ha1, ha2, hk1, M, hmo, hml, hk0, hkp, N, O, B⟩ := hrel
          obtain ⟨wi, rfl⟩ : ∃ wi : World, wi = wr := ⟨_, rfl⟩
          have HMO := Lib.hid hmo
          have HK0 := Lib.hid hk0
          have HKP := Lib.hid hkp
          have hgetm : (ms.set i m).getD i (0, 0) = m := by
            rw [List.getD, List.getElem?_set, if_pos rfl, if_pos (by rw [HML.out]; exact l0)]
            rfl
          obtain ⟨c1, c2⟩ := MatAt.cells M (i := i) (by rw [List.length_set, HML.out]; exact l0)
          rw [hgetm] at c1 c2
          clear hmo hk0 hkp hgetm
          have HEX : Hid (¬ ((k : Int) < tries ∧ 0 ≤ at_ ∧ (i : Int) - at_ ≤ 32768 ∧ m.1 < mst) → FoundAt xs K tries i m) := Lib.hid (fun hno => by
            refine ⟨HMO.out, fun htr => ?_, fun _ h1 h2 h3 n0 hn0 => ?_⟩
            · by_cases hk : k = 0
              · rw [(HK0.out hk).1]
              · have := (HKP.out (by omega)).1
                omega
            · by_cases hk : k = 0
              · exfalso
                obtain ⟨e1, e2⟩ := HK0.out hk
                rw [HKI.out] at h2 h3
                apply hno
                rw [e1, e2]
                refine ⟨by omega, h2, h3, hm1⟩
              · rw [HKI.out, HMST.out] at hn0
                exact (HKP.out (by omega)).2 n0 hn0)
          have hexit : FoundAt xs K tries i m → ∃ (i' : Nat) (ms' : List (Nat × Nat)) (ah' : List Int), Value.int .i64 ((i : Int) + 1) = .int .i64 i' ∧ i' ≤ n ∧ ms'.length = n ∧ ah'.length = n ∧ (∀ j, j < i' → FoundAt xs K tries j (ms'.getD j (0, 0))) ∧ (∀ j, i' ≤ j → ms'.getD j (0, 0) = (0, 0)) ∧ (∀ j : Nat, j < i' → -1 ≤ ah'.getD j 0 ∧ ah'.getD j 0 < j) ∧ MatAt wi g ms' ∧ NewestAt wi mb i' K i' ∧ Own wi g 3 .i64 (.slice (some ⟨mb + 1, 0, none⟩) n n) ah' ∧ Below g w wi := fun hF => by
            have gs : ∀ j, (ms.set i m).getD j (0, 0) = if j = i then m else ms.getD j (0, 0) := fun j => by
              rw [List.getD, List.getD, List.getElem?_set]
              by_cases h : i = j
              · subst h; rw [if_pos rfl, if_pos rfl, if_pos (by rw [HML.out]; exact l0)]; rfl
              · rw [if_neg h, if_neg (Ne.symm h)]
            refine ⟨i + 1, ms.set i m, ah2, by go_num, by omega, by rw [List.length_set]; exact HML.out, HLS.out, fun j hj => ?_, fun j hj => ?_, HALL.out, M, N, O, B⟩
            · rw [gs]
              split
              · rename_i h; subst h; exact hF
              · exact HFO.out j (by omega)
            · rw [gs, if_neg (by omega)]
              exact HZE.out j (by omega)
          have HEXIT := Lib.hid hexit
          clear hexit
          by_cases d1 : (k : Int) < tries
          case neg =>
            have t1 : decide ((k : Int) < tries) = false := decide_eq_false d1
            have hF := Lib.hid (HEXIT.out (HEX.out (fun h => d1 h.1)))
            clear HEXIT HEX M N O B c1 c2
            go_wp2_with fail
            go_roundw
            case rel => exact hF.out
            case measure => simp [intOf] <;> omega
          have t1 : decide ((k : Int) < tries) = true := decide_eq_true d1
          by_cases d2 : 0 ≤ at_
          case neg =>
            have t2 : decide (0 ≤ at_) = false := decide_eq_false d2
            have hF := Lib.hid (HEXIT.out (HEX.out (fun h => d2 h.2.1)))
            clear HEXIT HEX M N O B c1 c2
            go_wp2_with fail
            go_roundw
            case rel => exact hF.out
            case measure => simp [intOf] <;> omega
          obtain ⟨q, rfl⟩ : ∃ q : Nat, at_ = q := ⟨at_.toNat, by omega⟩
          have t2 : decide ((0 : Int) ≤ (q : Int)) = true := decide_eq_true d2
          have hqi : q < i := by omega
          by_cases d3 : (i : Int) - (q : Int) ≤ 32768
          case neg =>
            have t3 : decide ((i : Int) - (q : Int) ≤ 32768) = false := decide_eq_false d3
            have hF := Lib.hid (HEXIT.out (HEX.out (fun h => d3 h.2.2.1)))
            clear HEXIT HEX M N O B c1 c2
            go_wp2_with fail
            go_roundw
            case rel => exact hF.out
            case measure => simp [intOf] <;> omega
          have t3 : decide ((i : Int) - (q : Int) ≤ 32768) = true := decide_eq_true d3
          by_cases d4 : m.1 < mst
          case neg =>
            have t4 : decide (m.1 < mst) = false := decide_eq_false d4
            have hF := Lib.hid (HEXIT.out (HEX.out (fun h => d4 h.2.2.2)))
            clear HEXIT HEX M N O B
            go_wp2_with fail
            go_roundw
            case rel => exact hF.out
            case measure => simp [intOf] <;> omega
          have t4 : decide (m.1 < mst) = true := decide_eq_true d4
          clear HEXIT HEX
          have GS := same_any (some ⟨b, off, none⟩) xs c q i mst wi (by rw [HN.out]; omega) hqi hm1 (by rw [HN.out]; exact him) ((hr.below B).more (by have := B.size; rw [← HG.out] at this; exact this))
          rw [HN.out] at GS
          have GS := Lib.hid GS
          have qa := O.cellAt HLS.out.symm (i := q) (by rw [HLS.out]; omega)
          have hab := HALL.out q (by omega)
          rw [getD_of] at qa
          obtain ⟨na, hna⟩ : ∃ na, ah2.getD q 0 = na := ⟨_, rfl⟩
          rw [hna] at qa hab
          have hqn : q < n := by omega
          clear hna
          go_upto_region 18 with (go_at_call 15; refine GS.out.mono ?_; rintro e w5 ⟨⟨n2, rfl, hAl⟩, hb5⟩)
          have M5 : MatAt w5 g (ms.set i m) := Block.below M hb5 (Block.lt M)
          have N5 := N.turn (hb5.block _ N.lt)
          have O5 := O.below hb5
          have hBs : g ≤ wi.heap.size := by have := B.size; rw [← HG.out] at this; exact this
          have B5 := B.trans (hb5.mono hBs)
          obtain ⟨c3, c4⟩ := MatAt.cells M5 (i := i) (by rw [List.length_set, HML.out]; exact l0)
          have hgetm : (ms.set i m).getD i (0, 0) = m := by
            rw [List.getD, List.getElem?_set, if_pos rfl, if_pos (by rw [HML.out]; exact l0)]
            rfl
          rw [hgetm] at c3 c4
          have qa5 : w5.cell? ⟨mb + 1, q, none⟩ = some (.int .i64 na) := (hb5.cell (p := ⟨mb + 1, q, none⟩) (O.lt _ rfl).2).trans qa
          have hAb := hAl.1
          have HAl := Lib.hid hAl
          clear hgetm M N O B c1 c2 t1 t2 t3 t4 hAl GS qa
          by_cases hnm : m.1 < n2
          · have e5 : decide (m.1 < n2) = true := decide_eq_true hnm
            have f3 := Block.frozen M5 (i * 2)
            have f4 := Block.frozen M5 (i * 2 + 1)
            have p3 : (i : Int) - (q : Int) = ((i - q : Nat) : Int) := by omega
            have hst : MatAt ((w5.setCell ⟨g, i * 2, none⟩ (.int .i64 n2)).setCell ⟨g, i * 2 + 1, none⟩ (.int .i64 ((i - q : Nat) : Int))) g (ms.set i (n2, i - q)) := by
              have h6 := Block.set_ (Block.set_ M5 (i * 2) (.int .i64 n2)) (i * 2 + 1) (.int .i64 ((i - q : Nat) : Int))
              rw [List.setIfInBounds_toArray, List.setIfInBounds_toArray, flatM_set, List.set_set] at h6
              exact h6
            have hmo2 : MatchOk xs i (n2, i - q) := by
              refine .inr ⟨by omega, by omega, by omega, by omega, by rw [HN.out]; omega, fun k2 h2 => ?_⟩
              have := HAl.out.2.1 k2 h2
              rw [show i - (i - q) + k2 = q + k2 by omega]
              exact this
            have HST := Lib.hid hst
            have HMO2 := Lib.hid hmo2
            clear hst hmo2
            go_wp2_with fail
            go_roundw
            case rel =>
              refine ⟨na, k + 1, (n2, i - q), rfl, by go_num, hab.1, by omega, by omega, HST.out, HMO2.out, hAb, fun h => absurd h (by omega), fun _ => ⟨by omega, fun n0 hn0 => ?_⟩, N5.turn (by rw [Below.heap_setCell _ _ _ _ (by show mb ≠ g; omega), Below.heap_setCell _ _ _ _ (by show mb ≠ g; omega)]), ?_, (B5.setCell (Nat.le_refl _) _).setCell (Nat.le_refl _) _⟩
              rotate_left
              · have k1 := grown_cells w5 g (i * 2) (.int .i64 n2)
                have k2 := grown_cells (w5.setCell ⟨g, i * 2, none⟩ (.int .i64 n2)) g (i * 2 + 1) (.int .i64 ((i - q : Nat) : Int))
                exact (O5.kept k1 (.inr (by simp [Value.ownBlock]; omega))).kept k2 (.inr (by simp [Value.ownBlock]; omega))
              by_cases hk : k = 0
              · obtain ⟨e1, e2⟩ := HK0.out hk
                rw [← e2, Int.toNat_natCast] at hn0
                have := alike_one HAl.out hn0
                show n0 ≤ n2
                omega
              · have := (HKP.out (by omega)).2 n0 hn0
                show n0 ≤ n2
                omega
            case measure => simp [intOf] <;> omega
          · have e5 : decide (m.1 < n2) = false := decide_eq_false hnm
            go_wp2_with fail
            go_roundw
            case rel =>
              refine ⟨na, k + 1, m, rfl, by go_num, hab.1, by omega, by omega, M5, HMO.out, hml, fun h => absurd h (by omega), fun _ => ⟨by omega, fun n0 hn0 => ?_⟩, N5, O5, B5⟩
              by_cases hk : k = 0
              · obtain ⟨e1, e2⟩ := HK0.out hk
                rw [← e2, Int.toNat_natCast] at hn0
                have := alike_one HAl.out hn0
                omega
              · exact (HKP.out (by omega)).2 n0 hn0
            case measure => simp [intOf] <;> omega
    · have d0 : decide ((i : Int) + 3 ≤ (n : Int)) = false := decide_eq_false (by omega)
      have HM := Lib.hid M
      have HF : Hid (Found xs K tries ms) := Lib.hid ⟨by rw [HML.out, HN.out], fun j hj => by
        rw [HN.out] at hj
        by_cases hji : j < i
        · exact HFO.out j hji
        · rw [HZE.out j (by omega)]
          exact foundAt_none xs K tries j (by rw [HN.out]; omega)⟩
      clear M N O
      go_wp2_with fail
      go_ret
      have e := HG.out
      subst e
      exact ⟨_, ms, rfl, HM.out, HF.out, B⟩
end Go.Proofs.Ythicgcgohpakgaa.Lz
