/-
  Layer 16, plan: Eval where a step asks for bytes that aren't there: contract. Conditions: as each theorem names.
-/
import Derived.Test.YtheofegmbajmkaaPlW
namespace Go.Proofs.Ytheofegmbajmkaa.Pl
open Go.ChangeShapes Go.WideShapes Go.ChangeAt Go.RowKit Go.Proofs.Ytheofegmbajmkaa.Kit

set_option maxRecDepth 100000 in
set_option maxHeartbeats 6400000 in
theorem eval_range (A : Option Addr) (ss : List Stp) (c : Nat) (v : Value) (src : Option (List Int)) (w : World) (hl : ss.length ≤ 1000) (hc : ss.length ≤ c) (hm : c ≤ maxLen) (hr : HoldsS w A ss) (hs : Src w v src) (h : ss.all rightS = true) (he : evalO src ss = none) :
    Calls Try.prog 21 #[.slice A ss.length c, v, .int .i64 (sumX ss)] w (GivesE [] 5 w) := by
  have hb0 : Below w.heap.size w ((w.alloc (.cells #[.slice none 0 0] 30)).alloc (.cells #[.int .i64 0] 26)) := ((Below.refl _ _).alloc (Nat.le_refl _) _).alloc (by simp) _
  have bp := (Block.new w 30 #[.slice none 0 0]).alloc (.cells #[.int .i64 0] 26)
  have bq : Block ((w.alloc (.cells #[.slice none 0 0] 30)).alloc (.cells #[.int .i64 0] 26)) (w.heap.size + 1) 26 #[.int .i64 0] := by
    have := Block.new (w.alloc (.cells #[.slice none 0 0] 30)) 26 #[.int .i64 0]
    simpa using this
  have hall := fun (i : Nat) (hi : i < ss.length) => List.all_eq_true.1 h ss[i] (List.getElem_mem hi)
  have hbd := fun (i : Nat) => sumX_bd (ss.take i) (all_take h i)
  have hos : ∀ old, src = some old → old.length ≤ 1000000 := by
    intro old ho
    subst ho
    obtain ⟨_, _, _, h1, _⟩ := hs
    exact h1
  have hlb := fun (i : Nat) (pre : List Int) => evalO_bd src hos (ss.take i) pre (all_take h i)
  have hmf : ∀ (fn : Fn) (first cap : Array Value) (w : World), (Instr.makeFunc fn first cap).run Try.prog w = .ok (.func fn first cap) w := fun _ _ _ _ => rfl
  go_enter_defers Try.func21, Try.ntmps21
  go_wp2_with fail
  generalize (w.alloc (.cells #[.slice none 0 0] 30)).alloc (.cells #[.int .i64 0] 26) = w0 at *
  have hr0 := holdsS_later hr hb0
  have G := Lib.hid (h ▸ are_any A ss c w0 hc hm hr0)
  clear h
  refine G.out.mono ?_
  rintro e w1 ⟨rfl, hb1⟩
  have bp1 := bp.below hb1 bp.lt
  have bq1 := bq.below hb1 bq.lt
  have hb01 := hb0.trans (hb1.mono hb0.size)
  have hr1 := holdsS_later hr hb01
  clear hr0 hb0 hb1 bp bq G
  unfold maxLen at hm
  go_wp2_with fail
  go_loopw [8, 18] (fun t s wr => ∃ i : Nat, i ≤ ss.length ∧ s = .int .i64 i ∧ t = .int .i64 (sumX (ss.take i)) ∧ Below w1.heap.size w1 wr) (fun _ s _ => ss.length - (intOf s).toNat)
  case atStart => exact ⟨0, Nat.zero_le _, rfl, by simp [sumX], Below.refl _ _⟩
  case round =>
    obtain ⟨i, hi, rfl, rfl, hb⟩ := hrel
    have hbi := hbd i
    rw [List.length_take] at hbi
    by_cases hlt : i < ss.length
    · have hri := (right_facts (hall i hlt)).1
      obtain ⟨b, off, rfl, hbl, c0, c1, c2, c3, k0, k1, k2, h1, h2, hoz, hrz⟩ := stepAt (steps_below hr1 hb) hlt
      have hnext : sumX (ss.take (i + 1)) = sumX (ss.take i) + ss[i].x := by rw [take_next hlt, sumX_snoc]
      generalize ss[i] = s at *
      obtain ⟨a, n, x, Az, cz, ys⟩ := s
      simp only at c0 c1 c2 c3 hri hnext
      generalize sumX (ss.take i) = S at *
      have HN := Lib.hid hnext
      have hb3 := hb.alloc hb.size (.cells #[.int .u8 a, .int .i64 n, .int .i64 x, .slice Az ys.length cz] 41)
      clear k0 k1 k2 h1 h2 hoz hrz hnext hall hbd hlb
      go_wp2_with fail
      go_roundw
      case rel => exact ⟨i + 1, by omega, by go_num, by rw [HN.out], hb3⟩
      case measure => simp [intOf] <;> omega
    · obtain rfl : i = ss.length := by omega
      rw [List.take_of_length_le (Nat.le_refl _)] at hbi ⊢
      have hne : (sumX ss != sumX ss) = false := by simp
      have hbx := hb01.trans (hb.mono hb01.size)
      have M0 : Made w wr [] none 0 := ⟨bp1.below hb bp1.lt, bq1.below hb bq1.lt, Own.nil _ _ _ _, hbx⟩
      generalize sumX ss = S at *
      clear hbd bp1 bq1 hr1
      go_wp2_with fail
      go_loopw [33] (fun s wx => ∃ (i : Nat) (pre : List Int) (A' : Option Addr) (c' : Nat), i ≤ ss.length ∧ s = .int .i64 i ∧ evalO src (ss.take i) = some pre ∧ Made w wx pre A' c') (fun s _ => ss.length - (intOf s).toNat)
      case atStart => exact ⟨0, [], none, 0, Nat.zero_le _, rfl, by simp [evalO], M0⟩
      case round =>
        obtain ⟨i, pre, A', c', hi, rfl, hpre, M⟩ := hrel
        have hpl := hlb i pre hpre
        rw [List.length_take] at hpl
        by_cases hlt : i < ss.length
        · have hri := hall i hlt
          have hnext := evalO_snoc src ss[i] (ss.take i)
          rw [← take_next hlt, hpre] at hnext
          obtain ⟨b, off, rfl, hbl, c0, c1, c2, c3, k0, k1, k2, h1, h2, hoz, hrz⟩ := stepAt (steps_below hr M.below) hlt
          cases hm2 : madeO src ss[i] with
          | none =>
            clear hnext
            have GM := fun (W : World) (h1 : Src W v src) => made_bad ss[i] v src W h1 hri hm2
            unfold stepV at GM
            generalize ss[i] = s at *
            obtain ⟨a, n, x, Az, cz, us⟩ := s
            simp only at c0 c1 c2 c3 GM
            have GM := Lib.hid GM
            have hbA := M.below.alloc M.below.size (.cells #[.int .u8 a, .int .i64 n, .int .i64 x, .slice Az us.length cz] 41)
            have hsA := hs.below hbA
            have blk := Block.new wr 41 #[.int .u8 a, .int .i64 n, .int .i64 x, .slice Az us.length cz]
            have bpA := M.bp.alloc (.cells #[.int .u8 a, .int .i64 n, .int .i64 x, .slice Az us.length cz] 41)
            have bqA := M.bq.alloc (.cells #[.int .u8 a, .int .i64 n, .int .i64 x, .slice Az us.length cz] 41)
            clear k0 k1 k2 h1 h2 hoz hall hlb hri hm2 hpre hr hs M0 M hrz
            go_wp2_with fail
            generalize wr.alloc (.cells #[.int .u8 a, .int .i64 n, .int .i64 x, .slice Az us.length cz] 41) = wa at *
            clear c0 c1 c2 c3
            have q0 := blk.cellOf 0 (u := .int .u8 a) rfl
            have q1 := blk.cellOf 1 (u := .int .i64 n) rfl
            have q2 := blk.cellOf 2 (u := .int .i64 x) rfl
            have q3 := blk.cellOf 3 (u := .slice Az us.length cz) rfl
            have p0 := bpA.cellOf 0 (u := .slice A' pre.length c') rfl
            have hBa := hbA.size
            have hcall : Calls Try.prog 36 #[.agg #[.int .u8 a, .int .i64 n, .int .i64 x, .slice Az us.length cz], v] wa.drew (Throws 5 wa) := (GM.out wa.drew (hsA.below ((Below.refl _ _).drew))).mono fun e w' ⟨he1, hb1⟩ => ⟨he1, ⟨hb1.os, hb1.tape, hb1.output, hb1.size, hb1.block⟩⟩
            have HC := Lib.hid hcall
            clear hcall GM
            refine wp_region_any (by kernel_rfl) ?_
            change wpAny _ _ _ _ _ _ _ (World.drew _)
            refine wpAny_ready (rs := [0, 1, 2]) (by kernel_rfl) (by simp) ?_
            refine AllReady.cons rfl (fun K hK => ?_) ?_
            · go_simp
              refine hK _ _ ?_
              clear hK K
              refine wpAny_ready (rs := [1, 2]) (by kernel_rfl) (by simp) ?_
              refine AllReady.cons rfl (fun K hK => ?_) ?_
              · go_simp
                refine hK _ _ ?_
                clear hK K
                refine wpAny_ready (rs := [2]) (by kernel_rfl) (by simp) ?_
                refine AllReady.cons rfl (fun K hK => ?_) ?_
                · go_simp
                  refine hK _ _ ?_
                  clear hK K
                  refine wpAny_ready (rs := [3]) (by kernel_rfl) (by simp) ?_
                  refine AllReady.cons rfl (fun K hK => ?_) ?_
                  · go_simp
                    go_at_call 36
                    refine HC.out.mono ?_
                    rintro e w5 ⟨rfl, hb5⟩
                    have bp5 := bpA.below hb5 bpA.lt
                    have bq5 := bqA.below hb5 bqA.lt
                    have hb05 := hbA.trans (hb5.mono hBa)
                    refine leaves_cons (f := 35) (args := #[.pointer (some ⟨w.heap.size, 0, none⟩), .pointer (some ⟨w.heap.size + 1, 0, none⟩)]) (by simp) (by simp [go_sem]) ?_
                    refine (catch_thrown w.heap.size (w.heap.size + 1) (.slice A' pre.length c') (.int .i64 0) 5 [] w5 (by omega) bp5 bq5).mono ?_
                    rintro e u' w9 ⟨rfl, rfl, g0, g1, t9⟩
                    have c0 := g0.cellOf 0 (u := .slice none 0 0) rfl
                    have c1 := g1.cellOf 0 (u := .int .i64 5) rfl
                    have hb9 := hb05.trans (t9.toBelow hb05.size (fun b hb he => by omega))
                    exact ⟨.tuple #[.slice none 0 0, .int .i64 5], by simp [results, Try.results21, go_sem, c0, c1], none, 0, rfl, Holds.nil, Nat.le_refl _, Nat.zero_le _, hb9⟩
                  exact AllReady.nil
                exact AllReady.nil
              refine AllReady.cons rfl (fun K hK => ?_) ?_
              · go_simp
                refine hK _ _ ?_
                clear hK K
                refine wpAny_ready (rs := [1]) (by kernel_rfl) (by simp) ?_
                refine AllReady.cons rfl (fun K hK => ?_) ?_
                · go_simp
                  refine hK _ _ ?_
                  clear hK K
                  refine wpAny_ready (rs := [3]) (by kernel_rfl) (by simp) ?_
                  refine AllReady.cons rfl (fun K hK => ?_) ?_
                  · go_simp
                    go_at_call 36
                    refine HC.out.mono ?_
                    rintro e w5 ⟨rfl, hb5⟩
                    have bp5 := bpA.below hb5 bpA.lt
                    have bq5 := bqA.below hb5 bqA.lt
                    have hb05 := hbA.trans (hb5.mono hBa)
                    refine leaves_cons (f := 35) (args := #[.pointer (some ⟨w.heap.size, 0, none⟩), .pointer (some ⟨w.heap.size + 1, 0, none⟩)]) (by simp) (by simp [go_sem]) ?_
                    refine (catch_thrown w.heap.size (w.heap.size + 1) (.slice A' pre.length c') (.int .i64 0) 5 [] w5 (by omega) bp5 bq5).mono ?_
                    rintro e u' w9 ⟨rfl, rfl, g0, g1, t9⟩
                    have c0 := g0.cellOf 0 (u := .slice none 0 0) rfl
                    have c1 := g1.cellOf 0 (u := .int .i64 5) rfl
                    have hb9 := hb05.trans (t9.toBelow hb05.size (fun b hb he => by omega))
                    exact ⟨.tuple #[.slice none 0 0, .int .i64 5], by simp [results, Try.results21, go_sem, c0, c1], none, 0, rfl, Holds.nil, Nat.le_refl _, Nat.zero_le _, hb9⟩
                  exact AllReady.nil
                exact AllReady.nil
              exact AllReady.nil
            refine AllReady.cons rfl (fun K hK => ?_) ?_
            · go_simp
              refine hK _ _ ?_
              clear hK K
              refine wpAny_ready (rs := [0, 2]) (by kernel_rfl) (by simp) ?_
              refine AllReady.cons rfl (fun K hK => ?_) ?_
              · go_simp
                refine hK _ _ ?_
                clear hK K
                refine wpAny_ready (rs := [2]) (by kernel_rfl) (by simp) ?_
                refine AllReady.cons rfl (fun K hK => ?_) ?_
                · go_simp
                  refine hK _ _ ?_
                  clear hK K
                  refine wpAny_ready (rs := [3]) (by kernel_rfl) (by simp) ?_
                  refine AllReady.cons rfl (fun K hK => ?_) ?_
                  · go_simp
                    go_at_call 36
                    refine HC.out.mono ?_
                    rintro e w5 ⟨rfl, hb5⟩
                    have bp5 := bpA.below hb5 bpA.lt
                    have bq5 := bqA.below hb5 bqA.lt
                    have hb05 := hbA.trans (hb5.mono hBa)
                    refine leaves_cons (f := 35) (args := #[.pointer (some ⟨w.heap.size, 0, none⟩), .pointer (some ⟨w.heap.size + 1, 0, none⟩)]) (by simp) (by simp [go_sem]) ?_
                    refine (catch_thrown w.heap.size (w.heap.size + 1) (.slice A' pre.length c') (.int .i64 0) 5 [] w5 (by omega) bp5 bq5).mono ?_
                    rintro e u' w9 ⟨rfl, rfl, g0, g1, t9⟩
                    have c0 := g0.cellOf 0 (u := .slice none 0 0) rfl
                    have c1 := g1.cellOf 0 (u := .int .i64 5) rfl
                    have hb9 := hb05.trans (t9.toBelow hb05.size (fun b hb he => by omega))
                    exact ⟨.tuple #[.slice none 0 0, .int .i64 5], by simp [results, Try.results21, go_sem, c0, c1], none, 0, rfl, Holds.nil, Nat.le_refl _, Nat.zero_le _, hb9⟩
                  exact AllReady.nil
                exact AllReady.nil
              refine AllReady.cons rfl (fun K hK => ?_) ?_
              · go_simp
                refine hK _ _ ?_
                clear hK K
                refine wpAny_ready (rs := [0, 3]) (by kernel_rfl) (by simp) ?_
                refine AllReady.cons rfl (fun K hK => ?_) ?_
                · go_simp
                  refine hK _ _ ?_
                  clear hK K
                  refine wpAny_ready (rs := [3]) (by kernel_rfl) (by simp) ?_
                  refine AllReady.cons rfl (fun K hK => ?_) ?_
                  · go_simp
                    go_at_call 36
                    refine HC.out.mono ?_
                    rintro e w5 ⟨rfl, hb5⟩
                    have bp5 := bpA.below hb5 bpA.lt
                    have bq5 := bqA.below hb5 bqA.lt
                    have hb05 := hbA.trans (hb5.mono hBa)
                    refine leaves_cons (f := 35) (args := #[.pointer (some ⟨w.heap.size, 0, none⟩), .pointer (some ⟨w.heap.size + 1, 0, none⟩)]) (by simp) (by simp [go_sem]) ?_
                    refine (catch_thrown w.heap.size (w.heap.size + 1) (.slice A' pre.length c') (.int .i64 0) 5 [] w5 (by omega) bp5 bq5).mono ?_
                    rintro e u' w9 ⟨rfl, rfl, g0, g1, t9⟩
                    have c0 := g0.cellOf 0 (u := .slice none 0 0) rfl
                    have c1 := g1.cellOf 0 (u := .int .i64 5) rfl
                    have hb9 := hb05.trans (t9.toBelow hb05.size (fun b hb he => by omega))
                    exact ⟨.tuple #[.slice none 0 0, .int .i64 5], by simp [results, Try.results21, go_sem, c0, c1], none, 0, rfl, Holds.nil, Nat.le_refl _, Nat.zero_le _, hb9⟩
                  exact AllReady.nil
                refine AllReady.cons rfl (fun K hK => ?_) ?_
                · go_simp
                  go_at_call 36
                  refine HC.out.mono ?_
                  rintro e w5 ⟨rfl, hb5⟩
                  have bp5 := bpA.below hb5 bpA.lt
                  have bq5 := bqA.below hb5 bqA.lt
                  have hb05 := hbA.trans (hb5.mono hBa)
                  refine leaves_cons (f := 35) (args := #[.pointer (some ⟨w.heap.size, 0, none⟩), .pointer (some ⟨w.heap.size + 1, 0, none⟩)]) (by simp) (by simp [go_sem]) ?_
                  refine (catch_thrown w.heap.size (w.heap.size + 1) (.slice A' pre.length c') (.int .i64 0) 5 [] w5 (by omega) bp5 bq5).mono ?_
                  rintro e u' w9 ⟨rfl, rfl, g0, g1, t9⟩
                  have c0 := g0.cellOf 0 (u := .slice none 0 0) rfl
                  have c1 := g1.cellOf 0 (u := .int .i64 5) rfl
                  have hb9 := hb05.trans (t9.toBelow hb05.size (fun b hb he => by omega))
                  exact ⟨.tuple #[.slice none 0 0, .int .i64 5], by simp [results, Try.results21, go_sem, c0, c1], none, 0, rfl, Holds.nil, Nat.le_refl _, Nat.zero_le _, hb9⟩
                exact AllReady.nil
              exact AllReady.nil
            refine AllReady.cons rfl (fun K hK => ?_) ?_
            · go_simp
              refine hK _ _ ?_
              clear hK K
              refine wpAny_ready (rs := [0, 1]) (by kernel_rfl) (by simp) ?_
              refine AllReady.cons rfl (fun K hK => ?_) ?_
              · go_simp
                refine hK _ _ ?_
                clear hK K
                refine wpAny_ready (rs := [1]) (by kernel_rfl) (by simp) ?_
                refine AllReady.cons rfl (fun K hK => ?_) ?_
                · go_simp
                  refine hK _ _ ?_
                  clear hK K
                  refine wpAny_ready (rs := [3]) (by kernel_rfl) (by simp) ?_
                  refine AllReady.cons rfl (fun K hK => ?_) ?_
                  · go_simp
                    go_at_call 36
                    refine HC.out.mono ?_
                    rintro e w5 ⟨rfl, hb5⟩
                    have bp5 := bpA.below hb5 bpA.lt
                    have bq5 := bqA.below hb5 bqA.lt
                    have hb05 := hbA.trans (hb5.mono hBa)
                    refine leaves_cons (f := 35) (args := #[.pointer (some ⟨w.heap.size, 0, none⟩), .pointer (some ⟨w.heap.size + 1, 0, none⟩)]) (by simp) (by simp [go_sem]) ?_
                    refine (catch_thrown w.heap.size (w.heap.size + 1) (.slice A' pre.length c') (.int .i64 0) 5 [] w5 (by omega) bp5 bq5).mono ?_
                    rintro e u' w9 ⟨rfl, rfl, g0, g1, t9⟩
                    have c0 := g0.cellOf 0 (u := .slice none 0 0) rfl
                    have c1 := g1.cellOf 0 (u := .int .i64 5) rfl
                    have hb9 := hb05.trans (t9.toBelow hb05.size (fun b hb he => by omega))
                    exact ⟨.tuple #[.slice none 0 0, .int .i64 5], by simp [results, Try.results21, go_sem, c0, c1], none, 0, rfl, Holds.nil, Nat.le_refl _, Nat.zero_le _, hb9⟩
                  exact AllReady.nil
                exact AllReady.nil
              refine AllReady.cons rfl (fun K hK => ?_) ?_
              · go_simp
                refine hK _ _ ?_
                clear hK K
                refine wpAny_ready (rs := [0, 3]) (by kernel_rfl) (by simp) ?_
                refine AllReady.cons rfl (fun K hK => ?_) ?_
                · go_simp
                  refine hK _ _ ?_
                  clear hK K
                  refine wpAny_ready (rs := [3]) (by kernel_rfl) (by simp) ?_
                  refine AllReady.cons rfl (fun K hK => ?_) ?_
                  · go_simp
                    go_at_call 36
                    refine HC.out.mono ?_
                    rintro e w5 ⟨rfl, hb5⟩
                    have bp5 := bpA.below hb5 bpA.lt
                    have bq5 := bqA.below hb5 bqA.lt
                    have hb05 := hbA.trans (hb5.mono hBa)
                    refine leaves_cons (f := 35) (args := #[.pointer (some ⟨w.heap.size, 0, none⟩), .pointer (some ⟨w.heap.size + 1, 0, none⟩)]) (by simp) (by simp [go_sem]) ?_
                    refine (catch_thrown w.heap.size (w.heap.size + 1) (.slice A' pre.length c') (.int .i64 0) 5 [] w5 (by omega) bp5 bq5).mono ?_
                    rintro e u' w9 ⟨rfl, rfl, g0, g1, t9⟩
                    have c0 := g0.cellOf 0 (u := .slice none 0 0) rfl
                    have c1 := g1.cellOf 0 (u := .int .i64 5) rfl
                    have hb9 := hb05.trans (t9.toBelow hb05.size (fun b hb he => by omega))
                    exact ⟨.tuple #[.slice none 0 0, .int .i64 5], by simp [results, Try.results21, go_sem, c0, c1], none, 0, rfl, Holds.nil, Nat.le_refl _, Nat.zero_le _, hb9⟩
                  exact AllReady.nil
                refine AllReady.cons rfl (fun K hK => ?_) ?_
                · go_simp
                  go_at_call 36
                  refine HC.out.mono ?_
                  rintro e w5 ⟨rfl, hb5⟩
                  have bp5 := bpA.below hb5 bpA.lt
                  have bq5 := bqA.below hb5 bqA.lt
                  have hb05 := hbA.trans (hb5.mono hBa)
                  refine leaves_cons (f := 35) (args := #[.pointer (some ⟨w.heap.size, 0, none⟩), .pointer (some ⟨w.heap.size + 1, 0, none⟩)]) (by simp) (by simp [go_sem]) ?_
                  refine (catch_thrown w.heap.size (w.heap.size + 1) (.slice A' pre.length c') (.int .i64 0) 5 [] w5 (by omega) bp5 bq5).mono ?_
                  rintro e u' w9 ⟨rfl, rfl, g0, g1, t9⟩
                  have c0 := g0.cellOf 0 (u := .slice none 0 0) rfl
                  have c1 := g1.cellOf 0 (u := .int .i64 5) rfl
                  have hb9 := hb05.trans (t9.toBelow hb05.size (fun b hb he => by omega))
                  exact ⟨.tuple #[.slice none 0 0, .int .i64 5], by simp [results, Try.results21, go_sem, c0, c1], none, 0, rfl, Holds.nil, Nat.le_refl _, Nat.zero_le _, hb9⟩
                exact AllReady.nil
              exact AllReady.nil
            exact AllReady.nil
          | some ys =>
            rw [hm2] at hnext
            have hyl := madeO_bd hm2 hri hos
            have GM := fun (W : World) (h1 : Src W v src) (h2 : Holds W W.heap.size .u8 ss[i].A ss[i].zs) => made_ok ss[i] v src ys W h1 hri hoz h2 hm2
            unfold stepV at GM
            generalize ss[i] = s at *
            obtain ⟨a, n, x, Az, cz, us⟩ := s
            simp only at c0 c1 c2 c3 hrz GM hnext
            have HN := Lib.hid hnext
            have GM := Lib.hid GM
            have hbA := M.below.alloc M.below.size (.cells #[.int .u8 a, .int .i64 n, .int .i64 x, .slice Az us.length cz] 41)
            have hsA := hs.below hbA
            have hrA := (hrz.below ((Below.refl w.heap.size wr).alloc M.below.size (.cells #[.int .u8 a, .int .i64 n, .int .i64 x, .slice Az us.length cz] 41))).more hbA.size
            have blk := Block.new wr 41 #[.int .u8 a, .int .i64 n, .int .i64 x, .slice Az us.length cz]
            have bpA := M.bp.alloc (.cells #[.int .u8 a, .int .i64 n, .int .i64 x, .slice Az us.length cz] 41)
            have bqA := M.bq.alloc (.cells #[.int .u8 a, .int .i64 n, .int .i64 x, .slice Az us.length cz] 41)
            have ownA := M.own.alloc (.cells #[.int .u8 a, .int .i64 n, .int .i64 x, .slice Az us.length cz] 41)
            clear k0 k1 k2 h1 h2 hoz hrz hall hlb hri hm2 hpre hnext hr hs M0 M
            go_wp2_with fail
            generalize wr.alloc (.cells #[.int .u8 a, .int .i64 n, .int .i64 x, .slice Az us.length cz] 41) = wa at *
            clear c0 c1 c2 c3
            have q0 := blk.cellOf 0 (u := .int .u8 a) rfl
            have q1 := blk.cellOf 1 (u := .int .i64 n) rfl
            have q2 := blk.cellOf 2 (u := .int .i64 x) rfl
            have q3 := blk.cellOf 3 (u := .slice Az us.length cz) rfl
            have p0 := bpA.cellOf 0 (u := .slice A' pre.length c') rfl
            have hBa := hbA.size
            have hcall : Calls Try.prog 36 #[.agg #[.int .u8 a, .int .i64 n, .int .i64 x, .slice Az us.length cz], v] wa.drew (GivesH ys wa) := (GM.out wa.drew (hsA.below ((Below.refl _ _).drew)) (hrA.below ((Below.refl _ _).drew))).mono fun e w' ⟨A1, c1, he1, hh1, hb1⟩ => ⟨A1, c1, he1, hh1, ⟨hb1.os, hb1.tape, hb1.output, hb1.size, hb1.block⟩⟩
            have HC := Lib.hid hcall
            clear hcall GM
            first | (go_region_law (first
              | (go_simp; go_at_call 36; refine HC.out.mono ?_; rintro e w5 ⟨A5, c5, rfl, hr5, hb5⟩; have hb5' : Below w.heap.size wa w5 := hb5.mono hBa; have bp5 := bpA.below hb5 bpA.lt; have bq5 := bqA.below hb5 bqA.lt; have own5 := ownA.below hb5; have r0 := bp5.cellOf 0 (u := .slice A' pre.length c') rfl; have hs5 := Nat.le_trans hBa hb5.size)
              | (refine step_append_out _ (by rfl) _ _ _ (by rfl) elem8 (by exact own5) (by rfl) (by rfl) hr5 (by omega) hs5 ?_; intro A6 c6 w6 own6 tu6 ne6; have bp6 := bp5.apart own5 (by decide) tu6; have bq6 := bq5.apart own5 (by decide) tu6; have hb6 := own5.turned tu6 hs5; have t0 := bp6.cellOf 0 (u := .slice A' pre.length c') rfl; have z0 := bp6.frozen 0))) | fail
            all_goals
              have g0 := bp6.set_ 0 (.slice A6 (pre.length + ys.length) c6)
              have g1 := bq6.far (p := ⟨w.heap.size, 0, none⟩) (by simp) (.slice A6 (pre.length + ys.length) c6)
              have t9 := (TurnsIn.refl (· = w.heap.size) w6).setCell (p := ⟨w.heap.size, 0, none⟩) (.inl rfl) (.slice A6 (pre.length + ys.length) c6)
              have own9 := own6.out t9 (fun b hb he => own6.ne_block bp6 (by decide) (he ▸ hb))
              have hb9 := (((hbA.trans hb5').trans hb6).setCell (p := ⟨w.heap.size, 0, none⟩) (Nat.le_refl _) (.slice A6 (pre.length + ys.length) c6))
              have hla : (pre ++ ys).length = pre.length + ys.length := by simp
              have M9 : Made w (w6.setCell ⟨w.heap.size, 0, none⟩ (.slice A6 (pre.length + ys.length) c6)) (pre ++ ys) A6 c6 := ⟨by rw [hla]; exact g0, g1, by rw [hla]; exact own9, hb9⟩
              go_wp2_with fail
              go_roundw
              case rel => exact ⟨i + 1, pre ++ ys, A6, c6, by omega, by go_num, HN.out, M9⟩
              case measure => simp [intOf] <;> omega
        · obtain rfl : i = ss.length := by omega
          rw [List.take_of_length_le (Nat.le_refl _), he] at hpre
          cases hpre
end Go.Proofs.Ytheofegmbajmkaa.Pl
