/-
  Layer 16, plan: Eval of right steps: contract. Conditions: as each theorem names.
-/
import Derived.Test.YtheofegmbajmkaaPlV
import Derived.Deep.RegionLaw
import Derived.Deep.RegionWith
namespace Go.Proofs.Ytheofegmbajmkaa.Pl
open Go.ChangeShapes Go.WideShapes Go.ChangeAt Go.RowKit Go.Proofs.Ytheofegmbajmkaa.Kit

/-- Behind i steps. -/
structure Made (w wr : World) (pre : List Int) (A' : Option Addr) (c' : Nat) : Prop where
  bp : Block wr w.heap.size 30 #[.slice A' pre.length c']
  bq : Block wr (w.heap.size + 1) 26 #[.int .i64 0]
  own : Own wr w.heap.size 5 .u8 (.slice A' pre.length c') pre
  below : Below w.heap.size w wr

theorem madeO_bd {src : Option (List Int)} {s : Stp} {ys : List Int} (h : madeO src s = some ys) (hr : rightS s = true) (hs : ∀ old, src = some old → old.length ≤ 1000000) : ys.length ≤ 4096 := by
  have hf := right_facts hr
  have hd := right_data hr
  unfold madeO at h
  by_cases ha : s.a = 1
  · rw [if_pos ha] at h
    injection h with h
    subst h
    exact hd
  · rw [if_neg ha] at h
    cases src with
    | none => cases h
    | some old =>
      simp only at h
      by_cases hok : okRange old s.b s.x = true
      · rw [if_pos hok] at h
        injection h with h
        subst h
        rw [addB_length]
        unfold rangeB
        simp
        omega
      · rw [if_neg hok] at h
        cases h

theorem evalO_bd (src : Option (List Int)) (hs : ∀ old, src = some old → old.length ≤ 1000000) : ∀ (ss : List Stp) (zs : List Int), ss.all rightS = true → evalO src ss = some zs → zs.length ≤ 4096 * ss.length
  | [], zs, _, h => by simp [evalO] at h; subst h; simp
  | s :: ss, zs, hr, h => by
    simp only [List.all_cons, Bool.and_eq_true] at hr
    unfold evalO at h
    cases hm : madeO src s with
    | none => rw [hm] at h; simp at h
    | some a =>
      cases he : evalO src ss with
      | none => rw [hm, he] at h; simp at h
      | some b =>
        rw [hm, he] at h
        simp only [Option.some.injEq] at h
        subst h
        have h1 := madeO_bd hm hr.1 hs
        have h2 := evalO_bd src hs ss b hr.2 he
        simp only [List.length_append, List.length_cons]
        omega

theorem evalO_front (src : Option (List Int)) : ∀ (l r : List Stp) (zs : List Int), evalO src (l ++ r) = some zs → ∃ p, evalO src l = some p
  | [], _, _, _ => ⟨[], rfl⟩
  | s :: l, r, zs, h => by
    simp only [List.cons_append, evalO] at h ⊢
    cases hm : madeO src s with
    | none => rw [hm] at h; simp at h
    | some a =>
      cases he : evalO src (l ++ r) with
      | none => rw [hm, he] at h; simp at h
      | some b =>
        obtain ⟨p, hp⟩ := evalO_front src l r b he
        exact ⟨a ++ p, by simp [hp]⟩

set_option maxRecDepth 100000 in
set_option maxHeartbeats 6400000 in
theorem eval_made (A : Option Addr) (ss : List Stp) (c : Nat) (v : Value) (src : Option (List Int)) (zs : List Int) (w : World) (hl : ss.length ≤ 1000) (hc : ss.length ≤ c) (hm : c ≤ maxLen) (hr : HoldsS w A ss) (hs : Src w v src) (h : ss.all rightS = true) (he : evalO src ss = some zs) :
    Calls Try.prog 21 #[.slice A ss.length c, v, .int .i64 (sumX ss)] w (GivesE zs 0 w) := by
  have hb0 : Below w.heap.size w ((w.alloc (.cells #[.slice none 0 0] 30)).alloc (.cells #[.int .i64 0] 26)) := ((Below.refl _ _).alloc (Nat.le_refl _) _).alloc (by simp) _
  have bp := (Block.new w 30 #[.slice none 0 0]).alloc (.cells #[.int .i64 0] 26)
  have bq : Block ((w.alloc (.cells #[.slice none 0 0] 30)).alloc (.cells #[.int .i64 0] 26)) (w.heap.size + 1) 26 #[.int .i64 0] := by
    have := Block.new (w.alloc (.cells #[.slice none 0 0] 30)) 26 #[.int .i64 0]
    simpa using this
  have hall := fun (i : Nat) (hi : i < ss.length) => List.all_eq_true.1 h ss[i] (List.getElem_mem hi)
  have hbd := fun (i : Nat) => sumX_bd (ss.take i) (all_take h i)
  have hos : ∀ old, src = some old → old.length ≤ 1000000 := by
    intro old ho
    subst ho
    obtain ⟨_, _, _, h1, _⟩ := hs
    exact h1
  have hlb := fun (i : Nat) (pre : List Int) => evalO_bd src hos (ss.take i) pre (all_take h i)
  have hmf : ∀ (fn : Fn) (first cap : Array Value) (w : World), (Instr.makeFunc fn first cap).run Try.prog w = .ok (.func fn first cap) w := fun _ _ _ _ => rfl
  go_enter_defers Try.func21, Try.ntmps21
  go_wp2_with fail
  generalize (w.alloc (.cells #[.slice none 0 0] 30)).alloc (.cells #[.int .i64 0] 26) = w0 at *
  have hr0 := holdsS_later hr hb0
  have G := Lib.hid (h ▸ are_any A ss c w0 hc hm hr0)
  clear h
  refine G.out.mono ?_
  rintro e w1 ⟨rfl, hb1⟩
  have bp1 := bp.below hb1 bp.lt
  have bq1 := bq.below hb1 bq.lt
  have hb01 := hb0.trans (hb1.mono hb0.size)
  have hr1 := holdsS_later hr hb01
  clear hr0 hb0 hb1 bp bq G
  unfold maxLen at hm
  go_wp2_with fail
  go_loopw [8, 18] (fun t s wr => ∃ i : Nat, i ≤ ss.length ∧ s = .int .i64 i ∧ t = .int .i64 (sumX (ss.take i)) ∧ Below w1.heap.size w1 wr) (fun _ s _ => ss.length - (intOf s).toNat)
  case atStart => exact ⟨0, Nat.zero_le _, rfl, by simp [sumX], Below.refl _ _⟩
  case round =>
    obtain ⟨i, hi, rfl, rfl, hb⟩ := hrel
    have hbi := hbd i
    rw [List.length_take] at hbi
    by_cases hlt : i < ss.length
    · have hri := (right_facts (hall i hlt)).1
      obtain ⟨b, off, rfl, hbl, c0, c1, c2, c3, k0, k1, k2, h1, h2, hoz, hrz⟩ := stepAt (steps_below hr1 hb) hlt
      have hnext : sumX (ss.take (i + 1)) = sumX (ss.take i) + ss[i].x := by rw [take_next hlt, sumX_snoc]
      generalize ss[i] = s at *
      obtain ⟨a, n, x, Az, cz, ys⟩ := s
      simp only at c0 c1 c2 c3 hri hnext
      generalize sumX (ss.take i) = S at *
      have HN := Lib.hid hnext
      have hb3 := hb.alloc hb.size (.cells #[.int .u8 a, .int .i64 n, .int .i64 x, .slice Az ys.length cz] 41)
      clear k0 k1 k2 h1 h2 hoz hrz hnext hall hbd hlb
      go_wp2_with fail
      go_roundw
      case rel => exact ⟨i + 1, by omega, by go_num, by rw [HN.out], hb3⟩
      case measure => simp [intOf] <;> omega
    · obtain rfl : i = ss.length := by omega
      rw [List.take_of_length_le (Nat.le_refl _)] at hbi ⊢
      have hne : (sumX ss != sumX ss) = false := by simp
      have hbx := hb01.trans (hb.mono hb01.size)
      have M0 : Made w wr [] none 0 := ⟨bp1.below hb bp1.lt, bq1.below hb bq1.lt, Own.nil _ _ _ _, hbx⟩
      generalize sumX ss = S at *
      clear hbd bp1 bq1 hr1
      go_wp2_with fail
      go_loopw [33] (fun s wx => ∃ (i : Nat) (pre : List Int) (A' : Option Addr) (c' : Nat), i ≤ ss.length ∧ s = .int .i64 i ∧ evalO src (ss.take i) = some pre ∧ Made w wx pre A' c') (fun s _ => ss.length - (intOf s).toNat)
      case atStart => exact ⟨0, [], none, 0, Nat.zero_le _, rfl, by simp [evalO], M0⟩
      case round =>
        obtain ⟨i, pre, A', c', hi, rfl, hpre, M⟩ := hrel
        have hpl := hlb i pre hpre
        rw [List.length_take] at hpl
        by_cases hlt : i < ss.length
        · have hri := hall i hlt
          have hnext := evalO_snoc src ss[i] (ss.take i)
          rw [← take_next hlt, hpre] at hnext
          obtain ⟨b, off, rfl, hbl, c0, c1, c2, c3, k0, k1, k2, h1, h2, hoz, hrz⟩ := stepAt (steps_below hr M.below) hlt
          cases hm2 : madeO src ss[i] with
          | none =>
            rw [hm2] at hnext
            obtain ⟨p, hp⟩ := evalO_front src (ss.take (i + 1)) (ss.drop (i + 1)) zs (by rw [List.take_append_drop]; exact he)
            rw [hp] at hnext
            cases hnext
          | some ys =>
            rw [hm2] at hnext
            have hyl := madeO_bd hm2 hri hos
            have GM := fun (W : World) (h1 : Src W v src) (h2 : Holds W W.heap.size .u8 ss[i].A ss[i].zs) => made_ok ss[i] v src ys W h1 hri hoz h2 hm2
            unfold stepV at GM
            generalize ss[i] = s at *
            obtain ⟨a, n, x, Az, cz, us⟩ := s
            simp only at c0 c1 c2 c3 hrz GM hnext
            have HN := Lib.hid hnext
            have GM := Lib.hid GM
            have hbA := M.below.alloc M.below.size (.cells #[.int .u8 a, .int .i64 n, .int .i64 x, .slice Az us.length cz] 41)
            have hsA := hs.below hbA
            have hrA := (hrz.below ((Below.refl w.heap.size wr).alloc M.below.size (.cells #[.int .u8 a, .int .i64 n, .int .i64 x, .slice Az us.length cz] 41))).more hbA.size
            have blk := Block.new wr 41 #[.int .u8 a, .int .i64 n, .int .i64 x, .slice Az us.length cz]
            have bpA := M.bp.alloc (.cells #[.int .u8 a, .int .i64 n, .int .i64 x, .slice Az us.length cz] 41)
            have bqA := M.bq.alloc (.cells #[.int .u8 a, .int .i64 n, .int .i64 x, .slice Az us.length cz] 41)
            have ownA := M.own.alloc (.cells #[.int .u8 a, .int .i64 n, .int .i64 x, .slice Az us.length cz] 41)
            clear k0 k1 k2 h1 h2 hoz hrz hall hlb hri hm2 hpre hnext hr hs M0 M
            go_wp2_with fail
            generalize wr.alloc (.cells #[.int .u8 a, .int .i64 n, .int .i64 x, .slice Az us.length cz] 41) = wa at *
            clear c0 c1 c2 c3
            have q0 := blk.cellOf 0 (u := .int .u8 a) rfl
            have q1 := blk.cellOf 1 (u := .int .i64 n) rfl
            have q2 := blk.cellOf 2 (u := .int .i64 x) rfl
            have q3 := blk.cellOf 3 (u := .slice Az us.length cz) rfl
            have p0 := bpA.cellOf 0 (u := .slice A' pre.length c') rfl
            have hBa := hbA.size
            have hcall : Calls Try.prog 36 #[.agg #[.int .u8 a, .int .i64 n, .int .i64 x, .slice Az us.length cz], v] wa.drew (GivesH ys wa) := (GM.out wa.drew (hsA.below ((Below.refl _ _).drew)) (hrA.below ((Below.refl _ _).drew))).mono fun e w' ⟨A1, c1, he1, hh1, hb1⟩ => ⟨A1, c1, he1, hh1, ⟨hb1.os, hb1.tape, hb1.output, hb1.size, hb1.block⟩⟩
            have HC := Lib.hid hcall
            clear hcall GM
            first | (go_region_law (first
              | (go_simp; go_at_call 36; refine HC.out.mono ?_; rintro e w5 ⟨A5, c5, rfl, hr5, hb5⟩; have hb5' : Below w.heap.size wa w5 := hb5.mono hBa; have bp5 := bpA.below hb5 bpA.lt; have bq5 := bqA.below hb5 bqA.lt; have own5 := ownA.below hb5; have r0 := bp5.cellOf 0 (u := .slice A' pre.length c') rfl; have hs5 := Nat.le_trans hBa hb5.size)
              | (refine step_append_out _ (by rfl) _ _ _ (by rfl) elem8 (by exact own5) (by rfl) (by rfl) hr5 (by omega) hs5 ?_; intro A6 c6 w6 own6 tu6 ne6; have bp6 := bp5.apart own5 (by decide) tu6; have bq6 := bq5.apart own5 (by decide) tu6; have hb6 := own5.turned tu6 hs5; have t0 := bp6.cellOf 0 (u := .slice A' pre.length c') rfl; have z0 := bp6.frozen 0))) | fail
            all_goals
              have g0 := bp6.set_ 0 (.slice A6 (pre.length + ys.length) c6)
              have g1 := bq6.far (p := ⟨w.heap.size, 0, none⟩) (by simp) (.slice A6 (pre.length + ys.length) c6)
              have t9 := (TurnsIn.refl (· = w.heap.size) w6).setCell (p := ⟨w.heap.size, 0, none⟩) (.inl rfl) (.slice A6 (pre.length + ys.length) c6)
              have own9 := own6.out t9 (fun b hb he => own6.ne_block bp6 (by decide) (he ▸ hb))
              have hb9 := (((hbA.trans hb5').trans hb6).setCell (p := ⟨w.heap.size, 0, none⟩) (Nat.le_refl _) (.slice A6 (pre.length + ys.length) c6))
              have hla : (pre ++ ys).length = pre.length + ys.length := by simp
              have M9 : Made w (w6.setCell ⟨w.heap.size, 0, none⟩ (.slice A6 (pre.length + ys.length) c6)) (pre ++ ys) A6 c6 := ⟨by rw [hla]; exact g0, g1, by rw [hla]; exact own9, hb9⟩
              go_wp2_with fail
              go_roundw
              case rel => exact ⟨i + 1, pre ++ ys, A6, c6, by omega, by go_num, HN.out, M9⟩
              case measure => simp [intOf] <;> omega
        · obtain rfl : i = ss.length := by omega
          rw [List.take_of_length_le (Nat.le_refl _), he] at hpre
          injection hpre with hpre
          subst hpre
          have p0 := M.bp.cellOf 0 (u := .slice A' zs.length c') rfl
          have p1 := M.bq.cellOf 0 (u := .int .i64 0) rfl
          have z0 := M.bp.frozen 0
          have z1 := M.bq.frozen 0
          clear hall hlb
          go_wp2_with fail
          have g0 := (M.bp.set_ 0 (.slice A' zs.length c')).far (p := ⟨w.heap.size + 1, 0, none⟩) (by simp) (.int .i64 0)
          have g1 := (M.bq.far (p := ⟨w.heap.size, 0, none⟩) (by simp) (.slice A' zs.length c')).set_ 0 (.int .i64 0)
          have t9 := ((TurnsIn.refl (fun b => b = w.heap.size ∨ b = w.heap.size + 1) wr).setCell (p := ⟨w.heap.size, 0, none⟩) (.inl (.inl rfl)) (.slice A' zs.length c')).setCell (p := ⟨w.heap.size + 1, 0, none⟩) (.inl (.inr rfl)) (.int .i64 0)
          have own9 := M.own.out t9 (fun b hb he => by
            rcases he with he | he
            · exact M.own.ne_block M.bp (by decide) (he ▸ hb)
            · exact M.own.ne_block M.bq (by decide) (he ▸ hb))
          have hb9 := (M.below.setCell (p := ⟨w.heap.size, 0, none⟩) (Nat.le_refl _) (.slice A' zs.length c')).setCell (p := ⟨w.heap.size + 1, 0, none⟩) (Nat.le_succ _) (.int .i64 0)
          have c0 := g0.cellOf 0 (u := .slice A' zs.length c') rfl
          have c1 := g1.cellOf 0 (u := .int .i64 0) rfl
          generalize (wr.setCell ⟨w.heap.size, 0, none⟩ (.slice A' zs.length c')).setCell ⟨w.heap.size + 1, 0, none⟩ (.int .i64 0) = w9 at *
          refine leaves_cons (f := 35) (args := #[.pointer (some ⟨w.heap.size, 0, none⟩), .pointer (some ⟨w.heap.size + 1, 0, none⟩)]) (by simp) (by simp [go_sem]) ?_
          refine (catch_idle ⟨w.heap.size, 0, none⟩ ⟨w.heap.size + 1, 0, none⟩ w9).mono ?_
          rintro e u' w'' ⟨rfl, rfl, rfl⟩
          obtain ⟨A7, c7, hv7, hl7, hm7, hr7⟩ := own9.opened
          injection hv7 with e1 e2 e3
          subst e1 e3
          exact ⟨.tuple #[.slice A' zs.length c', .int .i64 0], by simp [results, Try.results21, go_sem, c0, c1], A', c', rfl, hr7, hl7, hm7, hb9⟩
end Go.Proofs.Ytheofegmbajmkaa.Pl
