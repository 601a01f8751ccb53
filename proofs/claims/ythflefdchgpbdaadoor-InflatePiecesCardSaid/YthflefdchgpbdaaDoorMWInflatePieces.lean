/-
  InflatePieces: the walk: however a packed text is cut into pieces, it tells the same, or the same error; what was told by then is a beginning of it.
-/
import Derived.Test.YthflefdchgpbdaaDoorMIrW
import Derived.Test.YthflefdchgpbdaaDoorMInY
import Derived.Test.YthflefdchgpbdaaDoorMGIces4
import Derived.BigQuiet
import Derived.Lib.QuietBelow
import Derived.Deep.QuietTactic
namespace Go.Proofs.YthflefdchgpbdaaDoor.InflatePieces
open Go.ChangeShapes Go.WideShapes Go.ChangeAt Go.RowKit Go.Proofs.YthflefdchgpbdaaDoor.Kit Go.Proofs.YthflefdchgpbdaaDoor.Bits Go.Proofs.YthflefdchgpbdaaDoor.Inf Go.Proofs.YthflefdchgpbdaaDoor.Df
open Go.Proofs.YthflefdchgpbdaaDoor.Rj (greatR greatR_any greatR_no joins_any Rowed)

/-- What is no inflater's has turned. -/
theorem apart {S : Nat → Prop} {B x : Nat} {most : Int} {b : List Int} {s : St} {p : Nat} {e0 : Int} {vr vs vd : Value} {A : Option Addr} {c : Nat} {w w' : World} (h : Infl w B x most b s p e0 vr vs vd A c) (t : TurnsIn S w w') (hx : ¬ S x)
    (hA : ∀ g, (Value.slice A s.out.length c).ownBlock = some g → ¬ S g) (hr : ∀ g, vr.ownBlock = some g → ¬ S g) (hs : ∀ g, vs.ownBlock = some g → ¬ S g) (hd : ∀ g, vd.ownBlock = some g → ¬ S g) : Infl w' B x most b s p e0 vr vs vd A c :=
  ⟨h.st, h.ia.far t hx hA, h.or_.out t hr, h.os.out t hs, h.od.out t hd, h.ap, h.cp, h.cr⟩
theorem join_split (rs : List Rw) (i : Nat) (hi : i < rs.length) : joinL (rs.drop i) = rs[i].zs ++ joinL (rs.drop (i + 1)) := by
  rw [List.drop_eq_getElem_cons hi]
  rfl
theorem join_octets {rs : List Rw} (h : ∀ r ∈ rs, Octets r.zs) : Octets (joinL rs) := by
  intro z hz
  obtain ⟨r, hr, hz⟩ := List.mem_flatMap.1 hz
  exact h r hr z hz
theorem rows_octets {w : World} {B : Nat} {A : Option Addr} {rs : List Rw} (h : HoldsW w B A rs) : ∀ r ∈ rs, Octets r.zs := by
  intro r hr
  obtain ⟨i, hi, rfl⟩ := List.mem_iff_getElem.1 hr
  obtain ⟨_, _, _, _, _, _, _, ho, _⟩ := rwAt h hi
  exact ho
theorem done_of {m : Int} {b : List Int} {s : St} {p : Nat} {e : Int} (h : Stands m b s p e) : (e = 2 → errI e = 0 ∧ doneB s e = false) ∧ (e ≠ 2 → errI e = e ∧ doneB s e = (e == 0)) := by
  have hb := err_bd h
  have he := h.ends
  refine ⟨fun c => ?_, fun c => ?_⟩
  · have h0 := errI_ok (e0 := e) (.inr c)
    refine ⟨h0, ?_⟩
    have : s.ph ≠ 3 := by
      rcases he with ⟨h3, h4⟩ | ⟨h3, _⟩
      · split at h4 <;> omega
      · exact h3
    unfold doneB
    rw [beq_eq_false_iff_ne.2 this]
    rfl
  · by_cases c0 : e = 0
    · subst c0
      have : s.ph = 3 := by
        rcases he with ⟨h3, _⟩ | ⟨_, h4⟩
        · exact h3
        · rcases h4 with ⟨_, h5⟩ | h5
          · omega
          · have := (fine_step m s).errs _ _ _ h5
            omega
      unfold doneB
      rw [this]
      exact ⟨errI_ok (.inl rfl), by rw [errI_ok (.inl rfl)]; rfl⟩
    · have h1 := errI_no (e0 := e) (by omega)
      refine ⟨h1.1, ?_⟩
      unfold doneB
      rw [beq_eq_false_iff_ne.2 h1.2, beq_eq_false_iff_ne.2 c0, Bool.and_false]

set_option maxRecDepth 100000 in
set_option maxHeartbeats 12800000 in
theorem walk (A : Option Addr) (rs : List Rw) (c : Nat) (m : Int) (w : World) (hc : rs.length ≤ c) (hm : c ≤ maxLen) (hr : HoldsW w w.heap.size A rs) (hmw : (Lit.int .i64 m).wf = true) (hL : Laid 0 turnsL w) :
    Calls Tryd.prog 4 #[.slice A rs.length c, .int .i64 m] w fun e w' => e = .returned (.bool true) ∧ Below w.heap.size w w' := by
  have G0 := Lib.hid (greatR_any A rs c w hc hm hr)
  have hgl : 0 < w.heap.size := World.block_lt_of_cell? _ _ (hL 0 (by decide))
  have GA := Lib.hid (fun (W : World) (hB : Below w.heap.size w W) => awake13 W (fun k hk => (hB.cell (p := ⟨_, k, none⟩) hgl).trans (hL k hk)))
  unfold AwakeTo at GA
  have HL := Lib.hid hL
  have HR := Lib.hid hr
  have hro := rows_octets hr
  have HCM := Lib.hid (And.intro hc hm)
  unfold maxLen at hm
  obtain ⟨gb, hgb⟩ : ∃ gb, greatR rs = gb := ⟨_, rfl⟩
  rw [hgb] at G0
  have HGB := Lib.hid hgb
  clear hr hL hgb hmw
  cases gb with
  | true =>
    go_enter Tryd.func4, Tryd.ntmps4
    go_wp2_with (first
      | (go_at_call 8; refine G0.out.mono ?_; rintro e w1 ⟨rfl, rfl⟩)
      | (go_at_call 5; refine (GA.out _ (Below.refl _ _)).mono ?_; rintro e w1 ⟨rfl, hb1⟩))
    go_ret
    exact ⟨rfl, hb1⟩
  | false =>
    obtain ⟨hn60, hz400⟩ := greatR_no HGB.out
    by_cases h3 : 5000 < m
    · have d5 : decide ((5000 : Int) < m) = true := decide_eq_true h3
      go_enter Tryd.func4, Tryd.ntmps4
      go_wp2_with (first
        | (go_at_call 8; refine G0.out.mono ?_; rintro e w1 ⟨rfl, rfl⟩)
        | (go_at_call 5; refine (GA.out _ (Below.refl _ _)).mono ?_; rintro e w1 ⟨rfl, hb1⟩))
      go_ret
      exact ⟨rfl, hb1⟩
    have d5 : decide ((5000 : Int) < m) = false := decide_eq_false h3
    have GJ := Lib.hid (joins_any A rs c w hc HCM.out.2 HR.out (by omega) (fun r hr => by have := hz400 r hr; omega))
    unfold Rowed at GJ
    have hjo := join_octets hro
    obtain ⟨js, hjs⟩ : ∃ js, joinL rs = js := ⟨_, rfl⟩
    rw [hjs] at GJ hjo
    have HJS := Lib.hid hjs
    have HZ4 := Lib.hid hz400
    clear hjs hz400 hro hc
    by_cases h6 : 600 < js.length
    · have d6 : decide ((600 : Int) < (js.length : Int)) = true := decide_eq_true (by omega)
      have d62 : decide (600 < js.length) = true := decide_eq_true h6
      go_enter Tryd.func4, Tryd.ntmps4
      go_wp2_with (first
        | (go_at_call 8; refine G0.out.mono ?_; rintro e w1 ⟨rfl, rfl⟩)
        | (go_at_call 9; refine GJ.out.mono ?_; rintro e w2 ⟨v2, rfl, o2, b2⟩; obtain ⟨A2, c2, rfl, _, _, _⟩ := o2.opened)
        | (have _t := b2; go_at_call 5; refine (GA.out _ b2).mono ?_; rintro e w1 ⟨rfl, hb1⟩; clear _t))
      go_ret
      exact ⟨rfl, b2.trans (hb1.mono b2.size)⟩
    have d6 : decide ((600 : Int) < (js.length : Int)) = false := decide_eq_false (by omega)
    have d62 : decide (600 < js.length) = false := decide_eq_false h6
    have hmb := most0_bd (show m ≤ 1000000 by omega)
    go_enter Tryd.func4, Tryd.ntmps4
    go_upto_region 6 with (first
      | (go_at_call 8; refine G0.out.mono ?_; rintro e w1 ⟨rfl, rfl⟩)
      | (go_at_call 9; refine GJ.out.mono ?_; rintro e w2 ⟨v2, rfl, o2, b2⟩; obtain ⟨A2, c2, rfl, _, _, h2⟩ := o2.opened))
    have GT := Lib.hid (rtold_cap A2 js c2 m w2 hjo (by omega) (by omega) h2)
    clear o2 h2 G0 GJ
    go_upto_region 7 with (go_at_call 10; refine GT.out.mono ?_; rintro e w3 ⟨A3, c3, out, e3, rfl, h3o, b3, ⟨t, q, stT, rfl⟩, hc3, hm3⟩)
    have b33 := b2.trans (b3.mono b2.size)
    have B3 := Lib.hid b33
    have H3 := Lib.hid h3o
    have ST := Lib.hid stT
    have GN := Lib.hid (new_any m (by omega) w3)
    unfold NewTo at GN
    have hw3 := b33.size
    have HTO := Lib.hid (show t.out.length ≤ 1000000 by have h1 := (stT.le hmb.1).1.len; omega)
    clear b2 b3 b33 h3o stT GT
    go_upto_region 9 with (go_at_call 11; refine GN.out.mono ?_; rintro e w4 ⟨rfl, i4, b4, hs4⟩; have I4 := Lib.hid i4; have B4 := Lib.hid b4; clear i4 b4)
    clear GN
    obtain ⟨x0, hx0⟩ : ∃ x0, w3.heap.size = x0 := ⟨_, rfl⟩
    rw [hx0] at I4 hs4
    try rw [hx0]
    have HX0 := Lib.hid hx0
    have hwx : w.heap.size ≤ x0 := by omega
    clear hx0 hw3
    obtain ⟨M, hMM⟩ : ∃ M, most0 m = M := ⟨_, rfl⟩
    rw [hMM] at I4 ST hmb
    clear hMM h3 hm
    go_wp2_with fail
    go_loopw [9, 10] (fun x9 x10 wr => ∃ (i : Nat) (b : List Int) (s : St) (p : Nat) (e0 : Int) (vr vs vd : Value) (A' : Option Addr) (c' : Nat), i ≤ rs.length ∧ x10 = .int .i64 i ∧ x9 = .int .i64 (errI e0) ∧ Octets b ∧ b ++ joinL (rs.drop i) = js ∧ Infl wr x0 x0 M b s p e0 vr vs vd A' c' ∧ Below x0 w3 wr) (fun _ x10 _ => rs.length - (intOf x10).toNat)
    case atStart => exact ⟨0, [], St.new, 0, 2, _, _, _, none, 0, Nat.zero_le _, rfl, rfl, (fun _ h => absurd h (by simp)), by rw [List.nil_append, List.drop_zero]; exact HJS.out, I4.out, by rw [← HX0.out]; exact B4.out⟩
    case round =>
      clear I4 B4
      obtain ⟨i, b, s, p, e0, vr, vs, vd, A', c', hi, rfl, rfl, hob, hbj, inf, hb⟩ := hrel
      have HWR : Hid (Below w.heap.size w wr) := Lib.hid (B3.out.trans (hb.mono hwx))
      have HBB := Lib.hid hb
      have HOB := Lib.hid hob
      have HBJ := Lib.hid hbj
      have hbl : b.length ≤ 600 := by have : js.length = b.length + (joinL (rs.drop i)).length := by rw [← hbj, List.length_append]
                                      omega
      by_cases hlt : i < rs.length
      · obtain ⟨rb, off, rfl, hrb, c0, k1, k2, hoz, hrz⟩ := rwAt (HR.out.below HWR.out) hlt
        have hz := HZ4.out _ (List.getElem_mem hlt)
        have hsp := join_split rs i hlt
        generalize rs[i] = r at *
        have hnx : (b ++ r.zs) ++ joinL (rs.drop (i + 1)) = js := by rw [List.append_assoc, ← hsp]; exact HBJ.out
        have HNX := Lib.hid hnx
        have hil : decide ((i : Int) < (rs.length : Int)) = true := decide_eq_true (by omega)
        have hil2 : decide (i < rs.length) = true := decide_eq_true hlt
        have hil3 : (i : Int) < (rs.length : Int) := by omega
        have hi0 : (0 : Int) ≤ (i : Int) := by omega
        have hwr := HWR.out.size
        have c0a : (wr.alloc (.cells #[] 5)).cell? ⟨rb, off + i, none⟩ = some (.slice r.A r.zs.length r.cap) := (((Below.refl wr.heap.size wr).alloc (Nat.le_refl _) _).cell (p := ⟨rb, off + i, none⟩) (by show rb < wr.heap.size; omega)).trans c0
        have own0 := Own.empty (B := wr.heap.size) wr 5 .u8 (Nat.le_refl _)
        have hb0 : Below wr.heap.size wr (wr.alloc (.cells #[] 5)) := (Below.refl _ _).alloc (Nat.le_refl _) _
        have hrz0 := (hrz.more hwr).below hb0
        have HIN := Lib.hid inf
        have HOZ := Lib.hid hoz
        clear inf hb hob hbj hnx hsp hoz hrz c0
        go_upto_region 14 with (at_builtin; refine wpList_append_ints _ rfl _ _ _ rfl elem8 own0 rfl rfl hrz0 (by simp only [List.length_nil]; omega) hb0.size ?_; intro v5 w5 own5 hg5 hb5 hv5; have own5 : Own w5 wr.heap.size 5 .u8 v5 r.zs := own5; clear hg5 hv5)
        obtain ⟨A5, c5, rfl, hc5, hm5, h5⟩ := own5.opened
        have bw5 := hb0.trans hb5
        have I5 := HIN.out.below bw5
        have hL5 : Laid 0 turnsL w5 := fun k hk => ((HWR.out.trans (bw5.mono hwr)).cell (p := ⟨_, k, none⟩) hgl).trans (HL.out k hk)
        have hx0w : x0 < wr.heap.size := HIN.out.ia.blk.lt
        have GW := Lib.hid (write_any x0 x0 M b r.zs s p e0 vr vs vd A' c' A5 c5 w5 I5 h5 HOB.out HOZ.out (by omega) (by omega) (by have := bw5.size; omega) hmb hL5 (by omega))
        unfold WriteTo at GW
        have O5 := Lib.hid own5
        have B5 := Lib.hid bw5
        have II5 := Lib.hid I5
        clear c0a own0 hb0 hrz0 own5 hb5 h5 bw5 I5 hL5
        go_upto_region 15 with (go_at_call 12; refine GW.out.mono ?_; rintro e w6 ⟨s1, p1, e1, vr1, vs1, vd1, A1, c1, rfl, i6, t6, n6⟩)
        clear GW
        have own6 := O5.out.out t6 (fun g hg he => by
          have h1 := (O5.out.lt g hg).1
          rcases he with he | he
          · omega
          · have := (HIN.out.ia.own.lt _ he).2; omega)
        have b6 : Below x0 w3 w6 := HBB.out.trans ((B5.out.mono (by omega)).trans (t6.toBelow (B := x0) (by have := B5.out.size; omega) (fun g hg he => by
          rcases he with he | he
          · omega
          · have := (HIN.out.ia.own.lt _ he).1; omega)))
        have B6 := Lib.hid b6
        have I6 := Lib.hid i6
        have far6 : ∀ (v v2 : Value), (∀ g, v.ownBlock = some g → g < wr.heap.size) → Newer w5 v v2 → ∀ g, v2.ownBlock = some g → ¬ (Value.slice A5 r.zs.length c5).ownBlock = some g := fun v v2 hv n g hg he => by
          have h1 := O5.out.lt g he
          rcases n with n | n
          · rw [n] at hg; have := hv g hg; omega
          · have := n g hg; omega
        have FA := Lib.hid (far6 _ _ (fun g hg => (HIN.out.ia.own.lt g hg).2) n6.1)
        have FS := Lib.hid (far6 _ _ (fun g hg => (HIN.out.os.lt g hg).2) n6.2.1)
        have FD := Lib.hid (far6 _ _ (fun g hg => (HIN.out.od.lt g hg).2) n6.2.2.1)
        have FR := Lib.hid (far6 _ _ (fun g hg => (HIN.out.or_.lt g hg).2) n6.2.2.2)
        have FX : Hid (¬ (Value.slice A5 r.zs.length c5).ownBlock = some x0) := Lib.hid (fun he => by have := (O5.out.lt _ he).1; omega)
        have OLT : Hid (∀ g, (Value.slice A5 r.zs.length c5).ownBlock = some g → wr.heap.size ≤ g) := Lib.hid (fun g hg => (O5.out.lt g hg).1)
        clear far6 t6 n6 b6 i6 O5 II5 B5
        obtain ⟨n, hn⟩ : ∃ n, r.zs.length = n := ⟨_, rfl⟩
        rw [hn] at own6 FA FS FD FR FX OLT hz
        try rw [hn]
        have HN := Lib.hid hn
        clear k1 hc5
        go_wp2_with fail
        go_loopw [12] (fun x12 wq => ∃ (k : Nat) (ys : List Int), k ≤ n ∧ x12 = .int .i64 k ∧ ys.length = n ∧ Own wq wr.heap.size 5 .u8 (.slice A5 n c5) ys ∧ TurnsIn (fun g => (Value.slice A5 n c5).ownBlock = some g) w6 wq) (fun x12 _ => n - (intOf x12).toNat)
        case atStart => exact ⟨0, r.zs, Nat.zero_le _, rfl, HN.out, own6, TurnsIn.refl _ _⟩
        case round =>
          clear own6
          obtain ⟨k, ys, hk, rfl, hyl, own, tq⟩ := hrel
          by_cases hkn : k < n
          · have jkn : (k : Int) < (n : Int) := by omega
            have jkn2 : decide (k < n) = true := decide_eq_true hkn
            have ownk := own
            rw [← hyl] at ownk
            obtain ⟨g5, cap5, eqv, _, _, _, _⟩ := ownk.form (by omega)
            injection eqv with q1 q2 q3
            subst q1
            have kk := ownk.cellAt rfl (i := k) (by omega)
            have kf := ownk.frozenAt rfl k
            have os := own.stored hyl.symm k 99
            have OS := Lib.hid os
            have TQ := Lib.hid tq
            have HYL := Lib.hid hyl
            have k0 : (0 : Int) ≤ (k : Int) := by omega
            clear q2 q3 ownk os own tq hyl
            go_wp2_with fail
            go_roundw
            case rel => exact ⟨k + 1, ys.set k 99, by omega, by go_num, by rw [List.length_set]; exact HYL.out, OS.out.1, TQ.out.trans (.ofGrown OS.out.2 fun b hb => hb)⟩
            case measure => simp [intOf] <;> omega
          · have jkn : ¬ (k : Int) < (n : Int) := by omega
            have jkn2 : decide (k < n) = false := decide_eq_false hkn
            have i7 := apart I6.out tq FX.out FA.out FR.out FS.out FD.out
            have I7 := Lib.hid i7
            have b7 := B6.out.trans (tq.toBelow (B := x0) (by have h1 := B6.out.size; have h2 := HX0.out; omega) (fun g hg he => by have := OLT.out g he; omega))
            have B7 := Lib.hid b7
            have GO := Lib.hid (out_any _ _ _ _ _ _ _ _ _ _ _ _ _ i7)
            have hpre : s1.out <+: t.out := Stands.begin (c := joinL (rs.drop (i + 1))) hmb.1 I6.out.st (by rw [HNX.out]; exact ST.out)
            have hle := hpre.length_le
            have htk : t.out.take s1.out.length = s1.out := (List.prefix_iff_eq_take.1 hpre).symm
            have HTK := Lib.hid htk
            clear i7 b7 hpre htk own tq
            go_upto_region 20 with (go_at_call 13; refine GO.out.mono ?_; rintro e w8 ⟨v8, rfl, o8, b8⟩; obtain ⟨A8, c8, rfl, _, _, h8⟩ := o8.opened)
            have bb8 : Below x0 w3 w8 := B7.out.trans (b8.mono (by have h1 := B7.out.size; have h2 := HX0.out; omega))
            have h38 : Holds w8 x0 .u8 A3 t.out := by have := H3.out; rw [HX0.out] at this; exact this.below bb8
            have cv1 : ∀ n, (convert 22 9 (.slice A8 s1.out.length c8)).run Tryd.prog (w8.drewN n) = .ok (.string (strOfNums s1.out)) (w8.drewN n) := fun n => conv_any (w8.drewN n) A8 s1.out c8 _ (h8.below (below_draws (Below.refl w8.heap.size w8) n))
            have cv2 : ∀ n, (convert 22 9 (.slice A3 s1.out.length c3)).run Tryd.prog (w8.drewN n) = .ok (.string (strOfNums s1.out)) (w8.drewN n) := fun n => conv_any (w8.drewN n) A3 s1.out c3 _ (by rw [← HTK.out]; exact holds_take (h38.below (below_draws (Below.refl x0 w8) n)))
            have I8 := Lib.hid (I7.out.below b8)
            have B8 := Lib.hid bb8
            have dl : decide ((t.out.length : Int) < (s1.out.length : Int)) = false := decide_eq_false (by omega)
            have dl2 : decide (t.out.length < s1.out.length) = false := decide_eq_false (by omega)
            have s0 : (0 : Int) ≤ (s1.out.length : Int) := by omega
            have s3 : (s1.out.length : Int) ≤ (c3 : Int) := by omega
            clear o8 h8 b8 bb8 h38 GO
            go_quiet (fail)
            go_wp2_with fail
            go_roundw
            case rel => exact ⟨i + 1, b ++ r.zs, s1, p1, e1, vr1, vs1, vd1, A1, c1, by omega, by go_num, rfl, Octets.append HOB.out HOZ.out, HNX.out, I8.out.below (below_draws (Below.refl _ _) _), below_draws B8.out _⟩
            case measure => simp [intOf] <;> omega
      · obtain rfl : i = rs.length := by omega
        have hjj : b = js := by rw [← HBJ.out, List.drop_length]; simp [joinL]
        subst hjj
        obtain ⟨rfl, rfl, rfl⟩ := inf.st.one ST.out
        have DN := Lib.hid (done_of ST.out)
        have GD := Lib.hid (fun (W : World) (h : Infl W x0 x0 M b s p e0 vr vs vd A' c') => done_any _ _ _ _ _ _ _ _ _ _ _ _ W h)
        have IN := Lib.hid inf
        clear inf hb hob hbj hlt
        by_cases h2 : e0 = 2
        · obtain ⟨k1, k2⟩ := DN.out.1 h2
          have z2 : (e0 == 2) = true := by rw [beq_iff_eq]; exact h2
          rw [k2] at GD
          rw [k1]
          clear k1 k2 h2
          go_wp2_with (first
            | (have _t := IN; go_at_call 14; refine (GD.out _ IN.out).mono ?_; rintro e w5 ⟨rfl, rfl⟩; clear _t)
            | (go_at_call 5; refine (GA.out _ HWR.out).mono ?_; rintro e w5 ⟨rfl, hb5⟩))
          go_ret
          exact ⟨rfl, HWR.out.trans (hb5.mono HWR.out.size)⟩
        · obtain ⟨k1, k2⟩ := DN.out.2 h2
          have z2 : (e0 == 2) = false := by rw [beq_eq_false_iff_ne]; exact h2
          rw [k2] at GD
          rw [k1]
          clear k1 k2 h2
          go_upto_region 24 with fail
          have iw : Infl wr.drew x0 x0 M b s p e0 vr vs vd A' c' := IN.out.below (show Below wr.heap.size wr wr.drew from below_draws (Below.refl _ _) 1)
          have bw : Below w.heap.size w wr.drew := below_draws HWR.out 1
          have IW := Lib.hid iw
          have BW := Lib.hid bw
          clear iw bw
          by_cases hz : e0 = 0
          · have z0 : (e0 == 0) = true := by rw [beq_iff_eq]; exact hz
            subst hz
            have HO3 := Lib.hid (fun (W : World) (hb : Below w.heap.size w W) (h : Below x0 w3 W) => (show Holds W x0 .u8 A3 s.out from by have := H3.out; rw [HX0.out] at this; exact this.below h))
            have B0 : Below x0 w3 wr.drew := below_draws HBB.out 1
            refine wp_region_held_drew (S := (fun W : World => Infl W x0 x0 M b s p 0 vr vs vd A' c' ∧ Below w.heap.size w W ∧ Below x0 w3 W)) (by kernel_rfl) ⟨IW.out, BW.out, B0⟩ (fun hS => ?_)
            refine wpAnyH_take (i := 0) (oi := ⟨some 89, _, _, _, _, _⟩) (v := .int .i64 0) rfl (by kernel_rfl) (by kernel_rfl) (by kernel_rfl) (fun _ _ _ h => h) (Or.inl ⟨by rfl, fun W hW => by go_simp⟩) hS ?_
            try simp only [Act.put, List.setIfInBounds_toArray, List.set_cons_zero, List.set_cons_succ]
            refine wpAnyH_take (i := 1) (oi := ⟨some 90, _, _, _, _, _⟩) (v := .int .i64 0) rfl (by kernel_rfl) (by kernel_rfl) (by kernel_rfl) (fun _ _ _ h => h) (Or.inl ⟨by rfl, fun W hW => by go_simp⟩) hS ?_
            try simp only [Act.put, List.setIfInBounds_toArray, List.set_cons_zero, List.set_cons_succ]
            refine wpAnyH_take (i := 2) (oi := ⟨some 91, _, _, _, _, _⟩) (v := .bool true) rfl (by kernel_rfl) (by kernel_rfl) (by kernel_rfl) (fun _ _ _ h => h) (Or.inl ⟨by rfl, fun W hW => by go_simp⟩) hS ?_
            try simp only [Act.put, List.setIfInBounds_toArray, List.set_cons_zero, List.set_cons_succ]
            refine wpAnyH_take (i := 3) (oi := ⟨some 92, _, _, _, _, _⟩) (v := .bool true) rfl (by kernel_rfl) (by kernel_rfl) (by kernel_rfl) (fun _ _ _ h => h) (Or.inl ⟨by rfl, fun W hW => by go_simp⟩) hS ?_
            try simp only [Act.put, List.setIfInBounds_toArray, List.set_cons_zero, List.set_cons_succ]
            refine wpAnyH_take (i := 4) (oi := ⟨some 93, _, _, _, _, _⟩) (v := .pointer (some ⟨x0, 0, none⟩)) rfl (by kernel_rfl) (by kernel_rfl) (by kernel_rfl) (fun _ _ _ h => h) (Or.inl ⟨by rfl, fun W hW => by go_simp⟩) hS ?_
            try simp only [Act.put, List.setIfInBounds_toArray, List.set_cons_zero, List.set_cons_succ]
            refine wpAnyH_take (i := 6) (oi := ⟨some 95, _, _, _, _, _⟩) (v := .int .i64 0) rfl (by kernel_rfl) (by kernel_rfl) (by kernel_rfl) (fun _ _ _ h => h) (Or.inl ⟨by rfl, fun W hW => by go_simp⟩) hS ?_
            try simp only [Act.put, List.setIfInBounds_toArray, List.set_cons_zero, List.set_cons_succ]
            refine wpAnyH_take (i := 7) (oi := ⟨some 96, _, _, _, _, _⟩) (v := .bool true) rfl (by kernel_rfl) (by kernel_rfl) (by kernel_rfl) (fun _ _ _ h => h) (Or.inl ⟨by rfl, fun W hW => by go_simp⟩) hS ?_
            try simp only [Act.put, List.setIfInBounds_toArray, List.set_cons_zero, List.set_cons_succ]
            refine wpAnyH_ready (rs := [5]) (by kernel_rfl) (by simp) ?_
            refine AllReadyH.cons rfl (fun K hK => ?_) AllReadyH.nil
            go_simp
            go_at_call 14
            refine (GD.out _ hS.1).mono ?_
            rintro e wd ⟨rfl, rfl⟩
            refine hK.out _ _ hS (fun hS => ?_)
            clear hK K
            try simp only [Act.put, List.setIfInBounds_toArray, List.set_cons_zero, List.set_cons_succ]
            refine wpAnyH_take (i := 8) (oi := ⟨some 97, _, _, _, _, _⟩) (v := .bool true) rfl (by kernel_rfl) (by kernel_rfl) (by kernel_rfl) (fun _ _ _ h => h) (Or.inl ⟨by rfl, fun W hW => by go_simp⟩) hS ?_
            try simp only [Act.put, List.setIfInBounds_toArray, List.set_cons_zero, List.set_cons_succ]
            refine wpAnyH_take (i := 9) (oi := ⟨some 98, _, _, _, _, _⟩) (v := .bool true) rfl (by kernel_rfl) (by kernel_rfl) (by kernel_rfl) (fun _ _ _ h => h) (Or.inl ⟨by rfl, fun W hW => by go_simp⟩) hS ?_
            try simp only [Act.put, List.setIfInBounds_toArray, List.set_cons_zero, List.set_cons_succ]
            refine wpAnyH_take (i := 10) (oi := ⟨some 99, _, _, _, _, _⟩) (v := .bool true) rfl (by kernel_rfl) (by kernel_rfl) (by kernel_rfl) (fun _ _ _ h => h) (Or.inl ⟨by rfl, fun W hW => by go_simp⟩) hS ?_
            try simp only [Act.put, List.setIfInBounds_toArray, List.set_cons_zero, List.set_cons_succ]
            refine wpAnyH_take (i := 11) (oi := ⟨some 100, _, _, _, _, _⟩) (v := .int .i64 0) rfl (by kernel_rfl) (by kernel_rfl) (by kernel_rfl) (fun _ _ _ h => h) (Or.inl ⟨by rfl, fun W hW => by go_simp⟩) hS ?_
            try simp only [Act.put, List.setIfInBounds_toArray, List.set_cons_zero, List.set_cons_succ]
            refine wpAnyH_take (i := 12) (oi := ⟨some 101, _, _, _, _, _⟩) (v := .bool false) rfl (by kernel_rfl) (by kernel_rfl) (by kernel_rfl) (fun _ _ _ h => h) (Or.inl ⟨by rfl, fun W hW => by go_simp⟩) hS ?_
            try simp only [Act.put, List.setIfInBounds_toArray, List.set_cons_zero, List.set_cons_succ]
            refine wpAnyH_take (i := 13) (oi := ⟨some 102, _, _, _, _, _⟩) (v := .bool false) rfl (by kernel_rfl) (by kernel_rfl) (by kernel_rfl) (fun _ _ _ h => h) (Or.inl ⟨by rfl, fun W hW => by go_simp⟩) hS ?_
            try simp only [Act.put, List.setIfInBounds_toArray, List.set_cons_zero, List.set_cons_succ]
            refine wpAnyH_take (i := 14) (oi := ⟨some 103, _, _, _, _, _⟩) (v := .pointer (some ⟨x0, 0, none⟩)) rfl (by kernel_rfl) (by kernel_rfl) (by kernel_rfl) (fun _ _ _ h => h) (Or.inl ⟨by rfl, fun W hW => by go_simp⟩) hS ?_
            try simp only [Act.put, List.setIfInBounds_toArray, List.set_cons_zero, List.set_cons_succ]
            refine wpAnyH_take (i := 17) (oi := ⟨some 106, _, _, _, _, _⟩) (v := .slice A3 s.out.length c3) rfl (by kernel_rfl) (by kernel_rfl) (by kernel_rfl) (fun _ _ _ h => h) (Or.inl ⟨by rfl, fun W hW => by go_simp⟩) hS ?_
            try simp only [Act.put, List.setIfInBounds_toArray, List.set_cons_zero, List.set_cons_succ]
            refine wpAnyH_take (i := 18) (oi := ⟨some 107, _, _, _, _, _⟩) (v := .string (strOfNums s.out)) rfl (by kernel_rfl) (by kernel_rfl) (by kernel_rfl) (fun _ _ _ h => h) (Or.inl ⟨by rfl, fun W hW => by have cvt := conv_any W A3 s.out c3 _ (HO3.out W hW.2.1 hW.2.2); go_simp⟩) hS ?_
            try simp only [Act.put, List.setIfInBounds_toArray, List.set_cons_zero, List.set_cons_succ]
            refine wpAnyH_ready (rs := [15]) (by kernel_rfl) (by simp) ?_
            refine AllReadyH.cons rfl (fun K hK => ?_) AllReadyH.nil
            go_simp
            go_at_call 13
            refine (out_any _ _ _ _ _ _ _ _ _ _ _ _ _ hS.1).mono ?_
            rintro e wo ⟨v9, rfl, o9, b9⟩
            obtain ⟨A9, c9, rfl, _, _, h9⟩ := o9.opened
            have bo := Lib.hid (hS.2.1.trans (b9.mono hS.2.1.size))
            have bo2 := Lib.hid (hS.2.2.trans (b9.mono (by have h1 := hS.2.2.size; have h2 := HX0.out; omega)))
            have io := Lib.hid (hS.1.below b9)
            have H9 := Lib.hid h9
            clear o9 b9 h9
            refine hK.out _ _ ⟨io.out, bo.out, bo2.out⟩ (fun hS => ?_)
            clear hK K
            try simp only [Act.put, List.setIfInBounds_toArray, List.set_cons_zero, List.set_cons_succ]
            refine wpAnyH_ready (rs := [16]) (by kernel_rfl) (by simp) ?_
            refine AllReadyH.cons rfl (fun K hK => ?_) AllReadyH.nil
            have cvo := conv_any wo A9 s.out c9 _ H9.out
            go_simp
            refine hK.out _ _ hS (fun hS => ?_)
            clear hK K
            try simp only [Act.put, List.setIfInBounds_toArray, List.set_cons_zero, List.set_cons_succ]
            refine wpAnyH_take (i := 19) (oi := ⟨some 108, _, _, _, _, _⟩) (v := .bool true) rfl (by kernel_rfl) (by kernel_rfl) (by kernel_rfl) (fun _ _ _ h => h) (Or.inl ⟨by rfl, fun W hW => by go_simp⟩) hS ?_
            try simp only [Act.put, List.setIfInBounds_toArray, List.set_cons_zero, List.set_cons_succ]
            refine wpAnyH_take (i := 20) (oi := ⟨some 109, _, _, _, _, _⟩) (v := .bool true) rfl (by kernel_rfl) (by kernel_rfl) (by kernel_rfl) (fun _ _ _ h => h) (Or.inl ⟨by rfl, fun W hW => by go_simp⟩) hS ?_
            try simp only [Act.put, List.setIfInBounds_toArray, List.set_cons_zero, List.set_cons_succ]
            refine wpAnyH_take (i := 21) (oi := ⟨some 110, _, _, _, _, _⟩) (v := .bool true) rfl (by kernel_rfl) (by kernel_rfl) (by kernel_rfl) (fun _ _ _ h => h) (Or.inl ⟨by rfl, fun W hW => by go_simp⟩) hS ?_
            try simp only [Act.put, List.setIfInBounds_toArray, List.set_cons_zero, List.set_cons_succ]
            refine wpAnyH_take (i := 22) (oi := ⟨some 111, _, _, _, _, _⟩) (v := .bool true) rfl (by kernel_rfl) (by kernel_rfl) (by kernel_rfl) (fun _ _ _ h => h) (Or.inl ⟨by rfl, fun W hW => by go_simp⟩) hS ?_
            try simp only [Act.put, List.setIfInBounds_toArray, List.set_cons_zero, List.set_cons_succ]
            refine wpAnyH_ready (rs := [23]) (by kernel_rfl) (by simp) ?_
            refine AllReadyH.cons rfl (fun K hK => ?_) AllReadyH.nil
            go_simp
            go_at_call 5
            refine (GA.out _ hS.2.1).mono ?_
            rintro e wz ⟨rfl, hbz⟩
            have bz := Lib.hid (hS.2.1.trans (hbz.mono hS.2.1.size))
            refine hK.out _ _ ⟨hS.1.below hbz, bz.out, hS.2.2.trans (hbz.mono (by have h1 := hS.2.2.size; have h2 := HX0.out; omega))⟩ (fun hS => ?_)
            clear hK K
            try simp only [Act.put, List.setIfInBounds_toArray, List.set_cons_zero, List.set_cons_succ]
            refine wpAnyH_take (i := 24) (oi := ⟨some 113, _, _, _, _, _⟩) (v := .bool true) rfl (by kernel_rfl) (by kernel_rfl) (by kernel_rfl) (fun _ _ _ h => h) (Or.inl ⟨by rfl, fun W hW => by go_simp⟩) hS ?_
            try simp only [Act.put, List.setIfInBounds_toArray, List.set_cons_zero, List.set_cons_succ]
            refine wpAnyH_take (i := 25) (oi := ⟨some 4, _, _, _, _, _⟩) (v := .bool true) rfl (by kernel_rfl) (by kernel_rfl) (by kernel_rfl) (fun _ _ _ h => h) (Or.inl ⟨by rfl, fun W hW => by go_simp⟩) hS ?_
            try simp only [Act.put, List.setIfInBounds_toArray, List.set_cons_zero, List.set_cons_succ]
            refine wpAnyH_done (by kernel_rfl) ?_ _
            go_wp2_with fail
            go_ret
            exact ⟨rfl, bz.out⟩
          · have z0 : (e0 == 0) = false := by rw [beq_eq_false_iff_ne]; exact hz
            rw [z0] at GD
            have HZ := Lib.hid hz
            clear hz
            refine wp_region_held_drew (S := (fun W : World => Infl W x0 x0 M b s p e0 vr vs vd A' c' ∧ Below w.heap.size w W)) (by kernel_rfl) ⟨IW.out, BW.out⟩ (fun hS => ?_)
            refine wpAnyH_take (i := 0) (oi := ⟨some 89, _, _, _, _, _⟩) (v := .int .i64 e0) rfl (by kernel_rfl) (by kernel_rfl) (by kernel_rfl) (fun _ _ _ h => h) (Or.inl ⟨by rfl, fun W hW => by go_simp⟩) hS ?_
            try simp only [Act.put, List.setIfInBounds_toArray, List.set_cons_zero, List.set_cons_succ]
            refine wpAnyH_take (i := 1) (oi := ⟨some 90, _, _, _, _, _⟩) (v := .int .i64 e0) rfl (by kernel_rfl) (by kernel_rfl) (by kernel_rfl) (fun _ _ _ h => h) (Or.inl ⟨by rfl, fun W hW => by go_simp⟩) hS ?_
            try simp only [Act.put, List.setIfInBounds_toArray, List.set_cons_zero, List.set_cons_succ]
            refine wpAnyH_take (i := 2) (oi := ⟨some 91, _, _, _, _, _⟩) (v := .bool true) rfl (by kernel_rfl) (by kernel_rfl) (by kernel_rfl) (fun _ _ _ h => h) (Or.inl ⟨by rfl, fun W hW => by go_simp⟩) hS ?_
            try simp only [Act.put, List.setIfInBounds_toArray, List.set_cons_zero, List.set_cons_succ]
            refine wpAnyH_take (i := 3) (oi := ⟨some 92, _, _, _, _, _⟩) (v := .bool true) rfl (by kernel_rfl) (by kernel_rfl) (by kernel_rfl) (fun _ _ _ h => h) (Or.inl ⟨by rfl, fun W hW => by go_simp⟩) hS ?_
            try simp only [Act.put, List.setIfInBounds_toArray, List.set_cons_zero, List.set_cons_succ]
            refine wpAnyH_take (i := 4) (oi := ⟨some 93, _, _, _, _, _⟩) (v := .pointer (some ⟨x0, 0, none⟩)) rfl (by kernel_rfl) (by kernel_rfl) (by kernel_rfl) (fun _ _ _ h => h) (Or.inl ⟨by rfl, fun W hW => by go_simp⟩) hS ?_
            try simp only [Act.put, List.setIfInBounds_toArray, List.set_cons_zero, List.set_cons_succ]
            refine wpAnyH_take (i := 6) (oi := ⟨some 95, _, _, _, _, _⟩) (v := .int .i64 e0) rfl (by kernel_rfl) (by kernel_rfl) (by kernel_rfl) (fun _ _ _ h => h) (Or.inl ⟨by rfl, fun W hW => by go_simp⟩) hS ?_
            try simp only [Act.put, List.setIfInBounds_toArray, List.set_cons_zero, List.set_cons_succ]
            refine wpAnyH_take (i := 7) (oi := ⟨some 96, _, _, _, _, _⟩) (v := .bool false) rfl (by kernel_rfl) (by kernel_rfl) (by kernel_rfl) (fun _ _ _ h => h) (Or.inl ⟨by rfl, fun W hW => by go_simp⟩) hS ?_
            try simp only [Act.put, List.setIfInBounds_toArray, List.set_cons_zero, List.set_cons_succ]
            refine wpAnyH_ready (rs := [5]) (by kernel_rfl) (by simp) ?_
            refine AllReadyH.cons rfl (fun K hK => ?_) AllReadyH.nil
            go_simp
            go_at_call 14
            refine (GD.out _ hS.1).mono ?_
            rintro e wd ⟨rfl, rfl⟩
            refine hK.out _ _ hS (fun hS => ?_)
            clear hK K
            try simp only [Act.put, List.setIfInBounds_toArray, List.set_cons_zero, List.set_cons_succ]
            refine wpAnyH_take (i := 8) (oi := ⟨some 97, _, _, _, _, _⟩) (v := .bool true) rfl (by kernel_rfl) (by kernel_rfl) (by kernel_rfl) (fun _ _ _ h => h) (Or.inl ⟨by rfl, fun W hW => by go_simp⟩) hS ?_
            try simp only [Act.put, List.setIfInBounds_toArray, List.set_cons_zero, List.set_cons_succ]
            refine wpAnyH_take (i := 9) (oi := ⟨some 98, _, _, _, _, _⟩) (v := .bool true) rfl (by kernel_rfl) (by kernel_rfl) (by kernel_rfl) (fun _ _ _ h => h) (Or.inl ⟨by rfl, fun W hW => by go_simp⟩) hS ?_
            try simp only [Act.put, List.setIfInBounds_toArray, List.set_cons_zero, List.set_cons_succ]
            refine wpAnyH_take (i := 10) (oi := ⟨some 99, _, _, _, _, _⟩) (v := .bool true) rfl (by kernel_rfl) (by kernel_rfl) (by kernel_rfl) (fun _ _ _ h => h) (Or.inl ⟨by rfl, fun W hW => by go_simp⟩) hS ?_
            try simp only [Act.put, List.setIfInBounds_toArray, List.set_cons_zero, List.set_cons_succ]
            refine wpAnyH_take (i := 11) (oi := ⟨some 100, _, _, _, _, _⟩) (v := .int .i64 e0) rfl (by kernel_rfl) (by kernel_rfl) (by kernel_rfl) (fun _ _ _ h => h) (Or.inl ⟨by rfl, fun W hW => by go_simp⟩) hS ?_
            try simp only [Act.put, List.setIfInBounds_toArray, List.set_cons_zero, List.set_cons_succ]
            refine wpAnyH_take (i := 12) (oi := ⟨some 101, _, _, _, _, _⟩) (v := .bool true) rfl (by kernel_rfl) (by kernel_rfl) (by kernel_rfl) (fun _ _ _ h => h) (Or.inl ⟨by rfl, fun W hW => by go_simp; exact HZ.out⟩) hS ?_
            try simp only [Act.put, List.setIfInBounds_toArray, List.set_cons_zero, List.set_cons_succ]
            refine wpAnyH_take (i := 13) (oi := ⟨some 102, _, _, _, _, _⟩) (v := .bool true) rfl (by kernel_rfl) (by kernel_rfl) (by kernel_rfl) (fun _ _ _ h => h) (Or.inl ⟨by rfl, fun W hW => by go_simp⟩) hS ?_
            try simp only [Act.put, List.setIfInBounds_toArray, List.set_cons_zero, List.set_cons_succ]
            refine wpAnyH_take (i := 14) (v := undef) rfl (by kernel_rfl) (by kernel_rfl) (by kernel_rfl) (fun _ _ _ h => h) (Or.inr ⟨by rfl, rfl⟩) hS ?_
            try simp only [Act.put, List.setIfInBounds_toArray, List.set_cons_zero, List.set_cons_succ]
            refine wpAnyH_take (i := 17) (v := undef) rfl (by kernel_rfl) (by kernel_rfl) (by kernel_rfl) (fun _ _ _ h => h) (Or.inr ⟨by rfl, rfl⟩) hS ?_
            try simp only [Act.put, List.setIfInBounds_toArray, List.set_cons_zero, List.set_cons_succ]
            refine wpAnyH_take (i := 18) (v := undef) rfl (by kernel_rfl) (by kernel_rfl) (by kernel_rfl) (fun _ _ _ h => h) (Or.inr ⟨by rfl, rfl⟩) hS ?_
            try simp only [Act.put, List.setIfInBounds_toArray, List.set_cons_zero, List.set_cons_succ]
            refine wpAnyH_ready (rs := [15]) (by kernel_rfl) (by simp) ?_
            refine AllReadyH.cons rfl (fun K hK => ?_) AllReadyH.nil
            go_simp
            refine hK.out _ _ hS (fun hS => ?_)
            clear hK K
            try simp only [Act.put, List.setIfInBounds_toArray, List.set_cons_zero, List.set_cons_succ]
            refine wpAnyH_take (i := 16) (v := undef) rfl (by kernel_rfl) (by kernel_rfl) (by kernel_rfl) (fun _ _ _ h => h) (Or.inr ⟨by rfl, rfl⟩) hS ?_
            try simp only [Act.put, List.setIfInBounds_toArray, List.set_cons_zero, List.set_cons_succ]
            refine wpAnyH_take (i := 19) (v := undef) rfl (by kernel_rfl) (by kernel_rfl) (by kernel_rfl) (fun _ _ _ h => h) (Or.inr ⟨by rfl, rfl⟩) hS ?_
            try simp only [Act.put, List.setIfInBounds_toArray, List.set_cons_zero, List.set_cons_succ]
            refine wpAnyH_take (i := 20) (oi := ⟨some 109, _, _, _, _, _⟩) (v := .bool true) rfl (by kernel_rfl) (by kernel_rfl) (by kernel_rfl) (fun _ _ _ h => h) (Or.inl ⟨by rfl, fun W hW => by go_simp⟩) hS ?_
            try simp only [Act.put, List.setIfInBounds_toArray, List.set_cons_zero, List.set_cons_succ]
            refine wpAnyH_take (i := 21) (oi := ⟨some 110, _, _, _, _, _⟩) (v := .bool true) rfl (by kernel_rfl) (by kernel_rfl) (by kernel_rfl) (fun _ _ _ h => h) (Or.inl ⟨by rfl, fun W hW => by go_simp⟩) hS ?_
            try simp only [Act.put, List.setIfInBounds_toArray, List.set_cons_zero, List.set_cons_succ]
            refine wpAnyH_take (i := 22) (oi := ⟨some 111, _, _, _, _, _⟩) (v := .bool true) rfl (by kernel_rfl) (by kernel_rfl) (by kernel_rfl) (fun _ _ _ h => h) (Or.inl ⟨by rfl, fun W hW => by go_simp⟩) hS ?_
            try simp only [Act.put, List.setIfInBounds_toArray, List.set_cons_zero, List.set_cons_succ]
            refine wpAnyH_ready (rs := [23]) (by kernel_rfl) (by simp) ?_
            refine AllReadyH.cons rfl (fun K hK => ?_) AllReadyH.nil
            go_simp
            go_at_call 5
            refine (GA.out _ hS.2).mono ?_
            rintro e wz ⟨rfl, hbz⟩
            have bz := Lib.hid (hS.2.trans (hbz.mono hS.2.size))
            refine hK.out _ _ ⟨hS.1.below hbz, bz.out⟩ (fun hS => ?_)
            clear hK K
            try simp only [Act.put, List.setIfInBounds_toArray, List.set_cons_zero, List.set_cons_succ]
            refine wpAnyH_take (i := 24) (oi := ⟨some 113, _, _, _, _, _⟩) (v := .bool true) rfl (by kernel_rfl) (by kernel_rfl) (by kernel_rfl) (fun _ _ _ h => h) (Or.inl ⟨by rfl, fun W hW => by go_simp⟩) hS ?_
            try simp only [Act.put, List.setIfInBounds_toArray, List.set_cons_zero, List.set_cons_succ]
            refine wpAnyH_take (i := 25) (oi := ⟨some 4, _, _, _, _, _⟩) (v := .bool true) rfl (by kernel_rfl) (by kernel_rfl) (by kernel_rfl) (fun _ _ _ h => h) (Or.inl ⟨by rfl, fun W hW => by go_simp⟩) hS ?_
            try simp only [Act.put, List.setIfInBounds_toArray, List.set_cons_zero, List.set_cons_succ]
            refine wpAnyH_done (by kernel_rfl) ?_ _
            go_wp2_with fail
            go_ret
            exact ⟨rfl, bz.out⟩
end Go.Proofs.YthflefdchgpbdaaDoor.InflatePieces
