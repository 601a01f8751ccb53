/-
  Layer 30, the document's Parse: a contract. Conditions: as each theorem names.
-/
import Derived.Test.YtngeemfcmoahoaaTvO
import Derived.Test.YtngeemfcmoahoaaTvM
namespace Go.Proofs.Ytngeemfcmoahoaa.Tv
open Go.ChangeShapes Go.WideShapes Go.ChangeAt Go.RowKit Go.Proofs.Ytngeemfcmoahoaa.Kit Go.Proofs.Ytngeemfcmoahoaa.Tx Go.Proofs.Ytngeemfcmoahoaa.Ty Go.Proofs.Ytngeemfcmoahoaa.Tz

theorem lineL_k {p : PS} {t : List Int} {k : Int} (h : lineL p t = .error k) : k = 21 ∨ k = 3 := by
  have h2 : lineR p t true = .error k := by unfold lineR; rw [if_neg (by decide)]; exact h
  rcases lineR_k h2 with h3 | h3 | h3
  · exfalso
    subst h3
    unfold lineL at h
    split at h
    · cases h
    · split at h
      · rcases fieldsP_k h with h | h <;> omega
      · cases ha : actL t with
        | error e =>
          rw [ha] at h
          have h : (Except.error e : Except Int PS) = .error 22 := h
          cases h
          unfold actL at ha
          split at ha
          · cases ha
          · split at ha
            · cases ha
            · cases ha
        | ok a => rw [ha] at h; cases h
  · exact .inl h3
  · exact .inr h3
theorem stepL_true (m : Nat) (p : PS) (t : List Int) : stepL (.ok (m, p)) (t, true) = match lineL p t with
    | .error k => .error (m + 1, k)
    | .ok q => .ok (m + 1, q) := rfl
/-- What the document's Parse answers. -/
def RParseTo (s : ByteArray) (w : World) (e : Ending) (w' : World) : Prop :=
  Below w.heap.size w w' ∧ match parseL (numsOf s) with
  | .error (n, k) => ∃ (p : PS) (As : Option Addr) (ns cs : Nat) (Ai : Option Addr) (ni ci : Nat) (Aa : Option Addr) (na ca : Nat), e = .returned (.agg (sC p (.slice As ns cs) (.slice Ai ni ci) (.slice Aa na ca) n k).toArray)
  | .ok q => ∃ As ns cs Ai ni ci Aa na ca es, e = .returned (.agg (sC q (.slice As ns cs) (.slice Ai ni ci) (.slice Aa na ca) 0 0).toArray) ∧ SRows w' w.heap.size q (.slice As ns cs) (.slice Ai ni ci) (.slice Aa na ca) es
theorem SRows.mono {w : World} {B B' : Nat} {p : PS} {vs vi va : Value} {es : List (ActV × Value)} (h : SRows w B p vs vi va es) (hb : B' ≤ B) : SRows w B' p vs vi va es :=
  ⟨h.os.mono hb, h.oi.mono hb, h.oa.mono hb, h.al, fun x hx => (h.ds x hx).mono hb⟩
/-- Between two bytes. -/
structure MidD (w wr : World) (s : ByteArray) (last i : Nat) (pre : List (List Int × Bool)) (p : PS) (vs vi va : Value) (es : List (ActV × Value)) : Prop where
  lines : linesL (numsOf s) = pre ++ linesL ((numsOf s).drop last)
  none_ : ∀ j, last ≤ j → j < i → (numsOf s).getD j 0 ≠ 10
  run : runL pre = .ok (pre.length, p)
  few : pre.length ≤ last
  b0 : Block wr w.heap.size 36 zS.toArray
  b1 : Block wr (w.heap.size + 1) 36 (sC p vs vi va pre.length 0).toArray
  rows : SRows wr (w.heap.size + 2) p vs vi va es
  bel : Below w.heap.size w wr
  size : w.heap.size + 2 ≤ wr.heap.size
theorem line_at {s : ByteArray} {last i : Nat} (hi : i < s.size) (hl : last ≤ i) (hc : (numsOf s).getD i 0 = 10) (hn : ∀ j, last ≤ j → j < i → (numsOf s).getD j 0 ≠ 10) :
    linesL ((numsOf s).drop last) = (numsOf (s.extract last i), true) :: linesL ((numsOf s).drop (i + 1)) := by
  have hnl := numsOf_length s
  have hil : i < (numsOf s).length := by rw [hnl]; exact hi
  have e : (numsOf s).drop last = ((numsOf s).drop last).take (i - last) ++ 10 :: (numsOf s).drop (i + 1) := by
    have h1 := (List.take_append_drop (i - last) ((numsOf s).drop last)).symm
    rw [List.drop_drop, show last + (i - last) = i by omega, List.drop_eq_getElem_cons hil] at h1
    rw [show (numsOf s)[i] = 10 by
      rw [List.getD_eq_getElem?_getD, List.getElem?_eq_getElem hil] at hc
      exact hc] at h1
    exact h1
  rw [nums_cut]
  conv => lhs; rw [e]
  apply linesL_cut
  intro c hc2
  obtain ⟨j, hj, rfl⟩ := List.getElem_of_mem hc2
  rw [List.length_take, List.length_drop, hnl] at hj
  have := hn (last + j) (by omega) (by omega)
  rw [List.getElem_take, List.getElem_drop]
  rw [List.getD_eq_getElem?_getD, List.getElem?_eq_getElem (by rw [hnl]; omega)] at this
  exact this
theorem line_end {s : ByteArray} {last : Nat} (hl : last < s.size) (hn : ∀ j, last ≤ j → j < s.size → (numsOf s).getD j 0 ≠ 10) : linesL ((numsOf s).drop last) = [((numsOf s).drop last, false)] := by
  have hnl := numsOf_length s
  apply linesL_end
  · intro h
    have := congrArg List.length h
    rw [List.length_drop, hnl] at this
    simp at this
    omega
  · intro c hc
    obtain ⟨j, hj, rfl⟩ := List.getElem_of_mem hc
    rw [List.length_drop, hnl] at hj
    have := hn (last + j) (by omega) (by omega)
    rw [List.getElem_drop]
    rw [List.getD_eq_getElem?_getD, List.getElem?_eq_getElem (by rw [hnl]; omega)] at this
    exact this
theorem blk_sets {w : World} {g : Nat} {t : TypeId} {c0 c1 c2 c3 c4 c5 c6 c7 c8 c9 : Value} (h : Block w g t #[c0, c1, c2, c3, c4, c5, c6, c7, c8, c9]) (d0 d1 d2 d3 d4 d5 d6 d7 d8 d9 : Value) : Block ((((((((((w.setCell ⟨g, 0, none⟩ d0).setCell ⟨g, 1, none⟩ d1).setCell ⟨g, 2, none⟩ d2).setCell ⟨g, 3, none⟩ d3).setCell ⟨g, 4, none⟩ d4).setCell ⟨g, 5, none⟩ d5).setCell ⟨g, 6, none⟩ d6).setCell ⟨g, 7, none⟩ d7).setCell ⟨g, 8, none⟩ d8).setCell ⟨g, 9, none⟩ d9) g t #[d0, d1, d2, d3, d4, d5, d6, d7, d8, d9] := by
  have h1 := ((((((((((h.set_ 0 d0).set_ 1 d1).set_ 2 d2).set_ 3 d3).set_ 4 d4).set_ 5 d5).set_ 6 d6).set_ 7 d7).set_ 8 d8).set_ 9 d9)
  simp only [List.setIfInBounds_toArray, List.set_cons_zero, List.set_cons_succ] at h1
  exact h1
theorem count_take (xs : List Int) {i : Nat} (hi : i < xs.length) : (xs.take (i + 1)).count 10 = (xs.take i).count 10 + if xs.getD i 0 = 10 then 1 else 0 := by
  rw [List.take_succ_eq_append_getElem hi, List.count_append, List.getD_eq_getElem?_getD, List.getElem?_eq_getElem hi]
  simp only [Option.getD_some, List.count_singleton]
  congr 1
  by_cases h : xs[i] = 10
  · rw [if_pos h, h]; rfl
  · rw [if_neg h, beq_eq_false_iff_ne.2 h]; rfl

set_option maxRecDepth 100000 in
set_option maxHeartbeats 12800000 in
theorem rparse_any (s : ByteArray) (w : World) (hs : s.size ≤ 100000) : Calls Try.prog 11 #[.string s] w (RParseTo s w) := by
  have d0 : decide ((1048576 : Int) < (s.size : Int)) = false := decide_eq_false (by omega)
  have d0' : decide (1048576 < s.size) = false := decide_eq_false (by omega)
  have HNL := Lib.hid (numsOf_length s)
  obtain ⟨W1, hW1⟩ : ∃ W1, w.alloc (.cells zS.toArray 36) = W1 := ⟨_, rfl⟩
  obtain ⟨W2, hW2⟩ : ∃ W2, W1.alloc (.cells zS.toArray 36) = W2 := ⟨_, rfl⟩
  have s1 : W1.heap.size = w.heap.size + 1 := by rw [← hW1]; simp
  have s2 : W2.heap.size = w.heap.size + 2 := by rw [← hW2]; simp [s1]
  have k1 : Block W1 w.heap.size 36 zS.toArray := by rw [← hW1]; exact Block.new w _ _
  have k2 : Block W2 w.heap.size 36 zS.toArray := by rw [← hW2]; exact k1.alloc _
  have k3 : Block W2 (w.heap.size + 1) 36 zS.toArray := by rw [← hW2, ← s1]; exact Block.new W1 _ _
  have b1 : Below w.heap.size w W1 := by rw [← hW1]; exact (Below.refl _ _).alloc (Nat.le_refl _) _
  have b2 : Below w.heap.size w W2 := by rw [← hW2]; exact b1.alloc b1.size _
  have M0 : Hid (MidD w W2 s 0 0 [] zeroP (.slice none 0 0) (.slice none 0 0) (.slice none 0 0) []) := Lib.hid ⟨by simp, (fun j h1 h2 => by omega), rfl, Nat.zero_le _, k2, k3, ⟨Own.nil _ _ _ _, Own.nil _ _ _ _, OwnE.nil _ _, rfl, fun x hx => by simp at hx⟩, b2, by omega⟩
  have HW1 := Lib.hid hW1
  have HW2 := Lib.hid hW2
  have HK1 := Lib.hid k1
  have HB1 := Lib.hid b1
  have S2 := Lib.hid s2
  have S1 := Lib.hid s1
  clear hW1 hW2 s1 s2 k1 k2 k3 b1 b2
  go_enter Try.func11, Try.ntmps11
  go_upto_region 1 with (fail)
  have hx1 := HW1.out
  unfold zS at hx1
  rw [hx1]
  clear hx1
  go_wp2_with fail
  go_loop [3, 4] (fun a b => ∃ i : Nat, i ≤ s.size ∧ b = .int .i64 i ∧ a = .int .i64 (((numsOf s).take i).count 10)) (fun _ b => s.size - (intOf b).toNat)
  case atStart => exact ⟨0, Nat.zero_le _, rfl, rfl⟩
  case round =>
    obtain ⟨i, hi, rfl, rfl⟩ := hrel
    have hcb : ((numsOf s).take i).count 10 ≤ i := by have h1 := List.count_le_length (a := (10 : Int)) (l := (numsOf s).take i); have h2 := List.length_take_le i (numsOf s); omega
    by_cases hlt : i < s.size
    · have dj : decide ((i : Int) < (s.size : Int)) = true := decide_eq_true (by omega)
      have dj2 : decide (i < s.size) = true := decide_eq_true hlt
      have hc := numsOf_get s i hlt
      have HC := Lib.hid (count_take (numsOf s) (i := i) (by rw [HNL.out]; exact hlt))
      by_cases c0 : s[i].toNat = 10
      · have f2 : (((s[i].toNat : Nat) : Int) == 10) = true := by rw [beq_iff_eq]; omega
        have f3 : (s[i].toNat == 10) = true := by rw [beq_iff_eq]; exact c0
        have HC2 := Lib.hid (show ((numsOf s).take (i + 1)).count 10 = ((numsOf s).take i).count 10 + 1 by rw [HC.out, if_pos (by rw [hc]; omega)])
        obtain ⟨n, hn⟩ : ∃ n, ((numsOf s).take i).count 10 = n := ⟨_, rfl⟩
        rw [hn] at HC2 hcb ⊢
        clear hc c0 hn HC
        go_wp2_with fail
        go_round
        case rel => exact ⟨i + 1, hlt, by go_num, by rw [HC2.out]; go_num⟩
        case measure => simp [intOf] <;> omega
      · have f2 : (((s[i].toNat : Nat) : Int) == 10) = false := by rw [beq_eq_false_iff_ne]; omega
        have f3 : (s[i].toNat == 10) = false := by rw [beq_eq_false_iff_ne]; exact c0
        have HC2 := Lib.hid (show ((numsOf s).take (i + 1)).count 10 = ((numsOf s).take i).count 10 by rw [HC.out, if_neg (by rw [hc]; omega)]; rfl)
        obtain ⟨n, hn⟩ : ∃ n, ((numsOf s).take i).count 10 = n := ⟨_, rfl⟩
        rw [hn] at HC2 hcb ⊢
        clear hc c0 hn HC
        go_wp2_with fail
        go_round
        case rel => exact ⟨i + 1, hlt, by go_num, by rw [HC2.out]⟩
        case measure => simp [intOf] <;> omega
    obtain rfl : i = s.size := by omega
    have dj : decide ((s.size : Int) < (s.size : Int)) = false := decide_eq_false (by omega)
    have dj2 : decide (s.size < s.size) = false := decide_eq_false (by omega)
    rw [show (numsOf s).take s.size = numsOf s from List.take_of_length_le (by rw [HNL.out]; exact Nat.le_refl _)] at hcb ⊢
    obtain ⟨n, hn⟩ : ∃ n, (numsOf s).count 10 = n := ⟨_, rfl⟩
    rw [hn] at hcb ⊢
    by_cases hc : 1000 < n
    · have d1 : decide ((1000 : Int) < (n : Int)) = true := decide_eq_true (by omega)
      have d1' : decide (1000 < n) = true := decide_eq_true hc
      have HP := Lib.hid (show parseL (numsOf s) = .error (0, 4) by unfold parseL; rw [if_pos (.inr (by rw [hn]; exact hc))])
      have HK := HK1.out
      clear hc hn
      go_wp2_with (have _t := HK; refine wpList_store_blk (cs := zS.toArray) rfl _ _ _ rfl (ds := [.int .i64 0, .int .i64 0, .int .i64 0, .slice none 0 0, .slice none 0 0, .int .i64 0, .slice none 0 0, .bool false, .int .i64 0, .int .i64 4]) (by exact HK) rfl rfl rfl (by kernel_rfl) (by intro u hu; simp only [List.mem_cons, List.mem_nil_iff, or_false] at hu; rcases hu with rfl | rfl | rfl | rfl | rfl | rfl | rfl | rfl | rfl | rfl <;> rfl) ?_; clear _t; intro w7 X7 g7)
      have r0 : w7.cell? ⟨w.heap.size, 0, none⟩ = some (.int .i64 0) := X7.cell 0
      have r1 : w7.cell? ⟨w.heap.size, 1, none⟩ = some (.int .i64 0) := X7.cell 1
      have r2 : w7.cell? ⟨w.heap.size, 2, none⟩ = some (.int .i64 0) := X7.cell 2
      have r3 : w7.cell? ⟨w.heap.size, 3, none⟩ = some (.slice none 0 0) := X7.cell 3
      have r4 : w7.cell? ⟨w.heap.size, 4, none⟩ = some (.slice none 0 0) := X7.cell 4
      have r5 : w7.cell? ⟨w.heap.size, 5, none⟩ = some (.int .i64 0) := X7.cell 5
      have r6 : w7.cell? ⟨w.heap.size, 6, none⟩ = some (.slice none 0 0) := X7.cell 6
      have r7 : w7.cell? ⟨w.heap.size, 7, none⟩ = some (.bool false) := X7.cell 7
      have r8 : w7.cell? ⟨w.heap.size, 8, none⟩ = some (.int .i64 0) := X7.cell 8
      have r9 : w7.cell? ⟨w.heap.size, 9, none⟩ = some (.int .i64 4) := X7.cell 9
      refine bodyPost_ret (v := .agg #[.int .i64 0, .int .i64 0, .int .i64 0, .slice none 0 0, .slice none 0 0, .int .i64 0, .slice none 0 0, .bool false, .int .i64 0, .int .i64 4]) ?_ rfl ?_
      · simp [results, Try.results11, go_sem, r0, r1, r2, r3, r4, r5, r6, r7, r8, r9]
      · have hb7 := (HB1.out).grown g7 (HB1.out).size (fun b hb => by injection hb with hb; omega)
        unfold RParseTo
        rw [HP.out]
        exact ⟨hb7, zeroP, none, 0, 0, none, 0, 0, none, 0, 0, rfl⟩
    have d1 : decide ((1000 : Int) < (n : Int)) = false := decide_eq_false (by omega)
    have d1' : decide (1000 < n) = false := decide_eq_false hc
    have HP := Lib.hid (show parseL (numsOf s) = match runL (linesL (numsOf s)) with
        | .error e => .error e
        | .ok (_, p) => if p.b = true then .ok p else .error (0, 3) by
      unfold parseL
      rw [if_neg (by rw [hn, HNL.out]; omega)]
      rfl)
    clear hc hn
    go_upto_region 10 with (fail)
    have hx2 := HW2.out
    unfold zS at hx2
    rw [hx2]
    try simp only [S1.out]
    clear hx2 hcb d1 d1' dj dj2
    go_wp2_with fail
    go_loopw [6, 7] (fun a b wr => ∃ (last i : Nat) (pre : List (List Int × Bool)) (p : PS) (As : Option Addr) (ns cs : Nat) (Ai : Option Addr) (ni ci : Nat) (Aa : Option Addr) (na ca : Nat) (es : List (ActV × Value)), last ≤ i ∧ i ≤ s.size ∧ a = .int .i64 last ∧ b = .int .i64 i ∧ Hid (MidD w wr s last i pre p (.slice As ns cs) (.slice Ai ni ci) (.slice Aa na ca) es)) (fun _ b _ => s.size - (intOf b).toNat)
    case atStart => exact ⟨0, 0, [], zeroP, none, 0, 0, none, 0, 0, none, 0, 0, [], Nat.le_refl _, Nat.zero_le _, rfl, rfl, M0⟩
    case round =>
      obtain ⟨last, i, pre, p, As, ns, cs, Ai, ni, ci, Aa, na, ca, es, hli, hi, rfl, rfl, HM⟩ := hrel
      clear M0
      by_cases hlt : i < s.size
      · have dj : decide ((i : Int) < (s.size : Int)) = true := decide_eq_true (by omega)
        have dj2 : decide (i < s.size) = true := decide_eq_true hlt
        have hc := numsOf_get s i hlt
        by_cases c0 : s[i].toNat = 10
        · have f2 : (((s[i].toNat : Nat) : Int) == 10) = true := by rw [beq_iff_eq]; omega
          have f3 : (s[i].toNat == 10) = true := by rw [beq_iff_eq]; exact c0
          have HLN := Lib.hid (line_at hlt hli (by rw [hc]; omega) HM.out.none_)
          clear hc c0
          have hfew := HM.out.few
          have hes : es.length ≤ 1000000 := by
            have h1 := congrArg List.length HM.out.rows.al
            rw [List.length_map] at h1
            have h2 := runL_al HM.out.run
            omega
          have hxs : (s.extract last i).size ≤ 100000 := by rw [ByteArray.size_extract]; omega
          have HG := Lib.hid (fun n => rone_any (w.heap.size + 2) p As Ai Aa ns cs ni ci na ca es pre.length 0 (s.extract last i) (wr.drewN n) hxs (by omega) hes HM.out.size (HM.out.rows.out ((TurnsIn.refl (fun _ => False) wr).drewN n) (fun _ h => h.elim)))
          have hlm := HM.out.lines
          rw [HLN.out] at hlm
          have HLM := Lib.hid hlm
          have x0 : wr.cell? ⟨w.heap.size + 1, 0, none⟩ = some (.int .i64 p.c0) := HM.out.b1.cell 0
          have x1 : wr.cell? ⟨w.heap.size + 1, 1, none⟩ = some (.int .i64 p.c1) := HM.out.b1.cell 1
          have x2 : wr.cell? ⟨w.heap.size + 1, 2, none⟩ = some (.int .i64 p.c2) := HM.out.b1.cell 2
          have x3 : wr.cell? ⟨w.heap.size + 1, 3, none⟩ = some (.slice As ns cs) := HM.out.b1.cell 3
          have x4 : wr.cell? ⟨w.heap.size + 1, 4, none⟩ = some (.slice Ai ni ci) := HM.out.b1.cell 4
          have x5 : wr.cell? ⟨w.heap.size + 1, 5, none⟩ = some (.int .i64 p.v) := HM.out.b1.cell 5
          have x6 : wr.cell? ⟨w.heap.size + 1, 6, none⟩ = some (.slice Aa na ca) := HM.out.b1.cell 6
          have x7 : wr.cell? ⟨w.heap.size + 1, 7, none⟩ = some (.bool p.b) := HM.out.b1.cell 7
          have x8 : wr.cell? ⟨w.heap.size + 1, 8, none⟩ = some (.int .i64 pre.length) := HM.out.b1.cell 8
          have x9 : wr.cell? ⟨w.heap.size + 1, 9, none⟩ = some (.int .i64 0) := HM.out.b1.cell 9
          have HCT := Lib.hid (show TurnsIn (fun x => (Value.slice Aa na ca).ownBlock = some x) wr wr from .refl _ _)
          have hlm' : last ≤ i ∧ i ≤ s.size := ⟨hli, hi⟩
          clear hlm hxs
          unfold sC at HG
          cases hl : lineL p (numsOf (s.extract last i)) with
          | error k =>
            have hk := lineL_k hl
            have dk : (k == 0) = false := by rw [beq_eq_false_iff_ne]; omega
            have HE := Lib.hid (show parseL (numsOf s) = .error (pre.length + 1, k) by
              rw [HP.out]
              have h2 : runL (pre ++ [(numsOf (s.extract last i), true)]) = .error (pre.length + 1, k) := by rw [runL_snoc, HM.out.run, stepL_true, hl]
              have h3 : runL (linesL (numsOf s)) = .error (pre.length + 1, k) := by
                rw [HLM.out, show pre ++ (numsOf (s.extract last i), true) :: linesL ((numsOf s).drop (i + 1)) = (pre ++ [(numsOf (s.extract last i), true)]) ++ linesL ((numsOf s).drop (i + 1)) by simp]
                exact runL_error h2 _
              rw [h3])
            have HGE := Lib.hid (fun n => (HG.out n).mono (R' := fun e w' => (∃ As ns cs Ai ni ci Aa na ca, e = .returned (.agg (sC p (.slice As ns cs) (.slice Ai ni ci) (.slice Aa na ca) ((pre.length : Int) + 1) k).toArray)) ∧ TurnsIn (fun x => (Value.slice Aa na ca).ownBlock = some x) (wr.drewN n) w') (fun e w' h => by
              unfold OneQ at h
              rw [hl] at h
              exact ⟨h.2, h.1⟩))
            unfold sC at HGE
            clear HG hl hk
            go_upto_region 15 with (fail)
            refine wp_mono ?_ NoPan.to
            go_region_law (first
              | (go_simp; go_at_call 21; refine (HGE.out 1).mono ?_; rintro e w5 ⟨⟨Bs, ms, ds, Bi, mi, di, Ba, ma, da, rfl⟩, t5⟩; have t5' : TurnsIn (fun x => (Value.slice Aa na ca).ownBlock = some x) wr w5 := ⟨t5.os, t5.tape, t5.output, t5.size, t5.block⟩; have k5 := HM.out.b1.out t5' (HM.out.rows.oa.ne_block HM.out.b1 (by decide)); have K50 := Lib.hid (HM.out.b0.out t5' (HM.out.rows.oa.ne_block HM.out.b0 (by decide))); have K5 := Lib.hid k5; have s5 := t5'.size; have T5 := Lib.hid t5'; have B5 := Lib.hid (HM.out.bel.trans (t5'.toBelow HM.out.bel.size (fun y hy h => by have := HM.out.rows.oa.lt y h; omega))); clear t5 t5'; have v0 : w5.cell? ⟨w.heap.size + 1, 0, none⟩ = some (.int .i64 p.c0) := k5.cell 0; have v1 : w5.cell? ⟨w.heap.size + 1, 1, none⟩ = some (.int .i64 p.c1) := k5.cell 1; have v2 : w5.cell? ⟨w.heap.size + 1, 2, none⟩ = some (.int .i64 p.c2) := k5.cell 2; have v3 : w5.cell? ⟨w.heap.size + 1, 3, none⟩ = some (.slice As ns cs) := k5.cell 3; have v4 : w5.cell? ⟨w.heap.size + 1, 4, none⟩ = some (.slice Ai ni ci) := k5.cell 4; have v5 : w5.cell? ⟨w.heap.size + 1, 5, none⟩ = some (.int .i64 p.v) := k5.cell 5; have v6 : w5.cell? ⟨w.heap.size + 1, 6, none⟩ = some (.slice Aa na ca) := k5.cell 6; have v7 : w5.cell? ⟨w.heap.size + 1, 7, none⟩ = some (.bool p.b) := k5.cell 7; have v8 : w5.cell? ⟨w.heap.size + 1, 8, none⟩ = some (.int .i64 pre.length) := k5.cell 8; have v9 : w5.cell? ⟨w.heap.size + 1, 9, none⟩ = some (.int .i64 0) := k5.cell 9; have vz := fun i => k5.frozen i; clear k5))
            all_goals
              obtain ⟨w6, hw6⟩ : ∃ w6, ((((((((((w5.setCell ⟨w.heap.size + 1, 0, none⟩ (.int .i64 p.c0)).setCell ⟨w.heap.size + 1, 1, none⟩ (.int .i64 p.c1)).setCell ⟨w.heap.size + 1, 2, none⟩ (.int .i64 p.c2)).setCell ⟨w.heap.size + 1, 3, none⟩ (.slice Bs ms ds)).setCell ⟨w.heap.size + 1, 4, none⟩ (.slice Bi mi di)).setCell ⟨w.heap.size + 1, 5, none⟩ (.int .i64 p.v)).setCell ⟨w.heap.size + 1, 6, none⟩ (.slice Ba ma da)).setCell ⟨w.heap.size + 1, 7, none⟩ (.bool p.b)).setCell ⟨w.heap.size + 1, 8, none⟩ (.int .i64 ((pre.length : Int) + 1))).setCell ⟨w.heap.size + 1, 9, none⟩ (.int .i64 k)) = w6 := ⟨_, rfl⟩
              have HX6 := Lib.hid (show Block w6 (w.heap.size + 1) 36 #[.int .i64 p.c0, .int .i64 p.c1, .int .i64 p.c2, .slice Bs ms ds, .slice Bi mi di, .int .i64 p.v, .slice Ba ma da, .bool p.b, .int .i64 ((pre.length : Int) + 1), .int .i64 k] by rw [← hw6]; exact blk_sets K5.out (.int .i64 p.c0) (.int .i64 p.c1) (.int .i64 p.c2) (.slice Bs ms ds) (.slice Bi mi di) (.int .i64 p.v) (.slice Ba ma da) (.bool p.b) (.int .i64 ((pre.length : Int) + 1)) (.int .i64 k))
              have t6 : TurnsIn (fun x => x = w.heap.size + 1) w5 w6 := by rw [← hw6]; exact (((((((((((TurnsIn.refl (fun x => x = w.heap.size + 1) w5).setCell (p := ⟨w.heap.size + 1, 0, none⟩) (.inl rfl) (.int .i64 p.c0)).setCell (p := ⟨w.heap.size + 1, 1, none⟩) (.inl rfl) (.int .i64 p.c1)).setCell (p := ⟨w.heap.size + 1, 2, none⟩) (.inl rfl) (.int .i64 p.c2)).setCell (p := ⟨w.heap.size + 1, 3, none⟩) (.inl rfl) (.slice Bs ms ds)).setCell (p := ⟨w.heap.size + 1, 4, none⟩) (.inl rfl) (.slice Bi mi di)).setCell (p := ⟨w.heap.size + 1, 5, none⟩) (.inl rfl) (.int .i64 p.v)).setCell (p := ⟨w.heap.size + 1, 6, none⟩) (.inl rfl) (.slice Ba ma da)).setCell (p := ⟨w.heap.size + 1, 7, none⟩) (.inl rfl) (.bool p.b)).setCell (p := ⟨w.heap.size + 1, 8, none⟩) (.inl rfl) (.int .i64 ((pre.length : Int) + 1))).setCell (p := ⟨w.heap.size + 1, 9, none⟩) (.inl rfl) (.int .i64 k))
              rw [hw6]
              have hs6 := t6.size
              clear hw6 v0 v1 v2 v3 v4 v5 v6 v7 v8 v9 vz
              have B6 := Lib.hid (B5.out.trans (t6.toBelow B5.out.size (fun y hy h => by omega)))
              have K6 := Lib.hid (K50.out.out t6 (by omega))
              have y0 : w6.cell? ⟨w.heap.size + 1, 0, none⟩ = some (.int .i64 p.c0) := HX6.out.cell 0
              have y1 : w6.cell? ⟨w.heap.size + 1, 1, none⟩ = some (.int .i64 p.c1) := HX6.out.cell 1
              have y2 : w6.cell? ⟨w.heap.size + 1, 2, none⟩ = some (.int .i64 p.c2) := HX6.out.cell 2
              have y3 : w6.cell? ⟨w.heap.size + 1, 3, none⟩ = some (.slice Bs ms ds) := HX6.out.cell 3
              have y4 : w6.cell? ⟨w.heap.size + 1, 4, none⟩ = some (.slice Bi mi di) := HX6.out.cell 4
              have y5 : w6.cell? ⟨w.heap.size + 1, 5, none⟩ = some (.int .i64 p.v) := HX6.out.cell 5
              have y6 : w6.cell? ⟨w.heap.size + 1, 6, none⟩ = some (.slice Ba ma da) := HX6.out.cell 6
              have y7 : w6.cell? ⟨w.heap.size + 1, 7, none⟩ = some (.bool p.b) := HX6.out.cell 7
              have y8 : w6.cell? ⟨w.heap.size + 1, 8, none⟩ = some (.int .i64 ((pre.length : Int) + 1)) := HX6.out.cell 8
              have y9 : w6.cell? ⟨w.heap.size + 1, 9, none⟩ = some (.int .i64 k) := HX6.out.cell 9
              have yz := fun i => HX6.out.frozen i
              clear t6 x0 x1 x2 x3 x4 x5 x6 x7 x8 x9
              unfold NoPan
              go_wp2_with (have _t := K6.out; refine wpList_store_blk (cs := zS.toArray) rfl _ _ _ rfl (ds := [.int .i64 p.c0, .int .i64 p.c1, .int .i64 p.c2, .slice Bs ms ds, .slice Bi mi di, .int .i64 p.v, .slice Ba ma da, .bool p.b, .int .i64 ((pre.length : Int) + 1), .int .i64 k]) (by exact K6.out) rfl rfl rfl (by kernel_rfl) (by intro u hu; simp only [List.mem_cons, List.mem_nil_iff, or_false] at hu; rcases hu with rfl | rfl | rfl | rfl | rfl | rfl | rfl | rfl | rfl | rfl <;> rfl) ?_; clear _t; intro w7 X7 g7)
              have r0 : w7.cell? ⟨w.heap.size, 0, none⟩ = some (.int .i64 p.c0) := X7.cell 0
              have r1 : w7.cell? ⟨w.heap.size, 1, none⟩ = some (.int .i64 p.c1) := X7.cell 1
              have r2 : w7.cell? ⟨w.heap.size, 2, none⟩ = some (.int .i64 p.c2) := X7.cell 2
              have r3 : w7.cell? ⟨w.heap.size, 3, none⟩ = some (.slice Bs ms ds) := X7.cell 3
              have r4 : w7.cell? ⟨w.heap.size, 4, none⟩ = some (.slice Bi mi di) := X7.cell 4
              have r5 : w7.cell? ⟨w.heap.size, 5, none⟩ = some (.int .i64 p.v) := X7.cell 5
              have r6 : w7.cell? ⟨w.heap.size, 6, none⟩ = some (.slice Ba ma da) := X7.cell 6
              have r7 : w7.cell? ⟨w.heap.size, 7, none⟩ = some (.bool p.b) := X7.cell 7
              have r8 : w7.cell? ⟨w.heap.size, 8, none⟩ = some (.int .i64 ((pre.length : Int) + 1)) := X7.cell 8
              have r9 : w7.cell? ⟨w.heap.size, 9, none⟩ = some (.int .i64 k) := X7.cell 9
              refine bodyPost_ret (v := .agg #[.int .i64 p.c0, .int .i64 p.c1, .int .i64 p.c2, .slice Bs ms ds, .slice Bi mi di, .int .i64 p.v, .slice Ba ma da, .bool p.b, .int .i64 ((pre.length : Int) + 1), .int .i64 k]) ?_ rfl ?_
              · simp [results, Try.results11, go_sem, r0, r1, r2, r3, r4, r5, r6, r7, r8, r9]
              · have hb7 := (B6.out).grown g7 (B6.out).size (fun b hb => by injection hb with hb; omega)
                unfold RParseTo
                rw [HE.out]
                exact ⟨hb7, p, Bs, ms, ds, Bi, mi, di, Ba, ma, da, rfl⟩
          | ok q =>
            have HQ := Lib.hid (show runL (pre ++ [(numsOf (s.extract last i), true)]) = .ok (pre.length + 1, q) by rw [runL_snoc, HM.out.run, stepL_true, hl])
            have HGE := Lib.hid (fun n => (HG.out n).mono (R' := fun e w' => (∃ As ns cs Ai ni ci Aa na ca es, e = .returned (.agg (sC q (.slice As ns cs) (.slice Ai ni ci) (.slice Aa na ca) ((pre.length : Int) + 1) 0).toArray) ∧ SRows w' (w.heap.size + 2) q (.slice As ns cs) (.slice Ai ni ci) (.slice Aa na ca) es) ∧ TurnsIn (fun x => (Value.slice Aa na ca).ownBlock = some x) (wr.drewN n) w') (fun e w' h => by
              unfold OneQ at h
              rw [hl] at h
              exact ⟨h.2, h.1⟩))
            unfold sC at HGE
            clear HG hl
            go_upto_region 15 with (fail)
            refine wp_mono ?_ NoPan.to
            go_region_law (first
              | (go_simp; go_at_call 21; refine (HGE.out 1).mono ?_; rintro e w5 ⟨⟨Bs, ms, ds, Bi, mi, di, Ba, ma, da, es5, rfl, r5⟩, t5⟩; have t5' : TurnsIn (fun x => (Value.slice Aa na ca).ownBlock = some x) wr w5 := ⟨t5.os, t5.tape, t5.output, t5.size, t5.block⟩; have k5 := HM.out.b1.out t5' (HM.out.rows.oa.ne_block HM.out.b1 (by decide)); have K50 := Lib.hid (HM.out.b0.out t5' (HM.out.rows.oa.ne_block HM.out.b0 (by decide))); have K5 := Lib.hid k5; have s5 := t5'.size; have T5 := Lib.hid t5'; have B5 := Lib.hid (HM.out.bel.trans (t5'.toBelow HM.out.bel.size (fun y hy h => by have := HM.out.rows.oa.lt y h; omega))); have R5 := Lib.hid r5; clear r5; clear t5 t5'; have v0 : w5.cell? ⟨w.heap.size + 1, 0, none⟩ = some (.int .i64 p.c0) := k5.cell 0; have v1 : w5.cell? ⟨w.heap.size + 1, 1, none⟩ = some (.int .i64 p.c1) := k5.cell 1; have v2 : w5.cell? ⟨w.heap.size + 1, 2, none⟩ = some (.int .i64 p.c2) := k5.cell 2; have v3 : w5.cell? ⟨w.heap.size + 1, 3, none⟩ = some (.slice As ns cs) := k5.cell 3; have v4 : w5.cell? ⟨w.heap.size + 1, 4, none⟩ = some (.slice Ai ni ci) := k5.cell 4; have v5 : w5.cell? ⟨w.heap.size + 1, 5, none⟩ = some (.int .i64 p.v) := k5.cell 5; have v6 : w5.cell? ⟨w.heap.size + 1, 6, none⟩ = some (.slice Aa na ca) := k5.cell 6; have v7 : w5.cell? ⟨w.heap.size + 1, 7, none⟩ = some (.bool p.b) := k5.cell 7; have v8 : w5.cell? ⟨w.heap.size + 1, 8, none⟩ = some (.int .i64 pre.length) := k5.cell 8; have v9 : w5.cell? ⟨w.heap.size + 1, 9, none⟩ = some (.int .i64 0) := k5.cell 9; have vz := fun i => k5.frozen i; clear k5))
            all_goals
              obtain ⟨w6, hw6⟩ : ∃ w6, ((((((((((w5.setCell ⟨w.heap.size + 1, 0, none⟩ (.int .i64 q.c0)).setCell ⟨w.heap.size + 1, 1, none⟩ (.int .i64 q.c1)).setCell ⟨w.heap.size + 1, 2, none⟩ (.int .i64 q.c2)).setCell ⟨w.heap.size + 1, 3, none⟩ (.slice Bs ms ds)).setCell ⟨w.heap.size + 1, 4, none⟩ (.slice Bi mi di)).setCell ⟨w.heap.size + 1, 5, none⟩ (.int .i64 q.v)).setCell ⟨w.heap.size + 1, 6, none⟩ (.slice Ba ma da)).setCell ⟨w.heap.size + 1, 7, none⟩ (.bool q.b)).setCell ⟨w.heap.size + 1, 8, none⟩ (.int .i64 ((pre.length : Int) + 1))).setCell ⟨w.heap.size + 1, 9, none⟩ (.int .i64 0)) = w6 := ⟨_, rfl⟩
              have HX6 := Lib.hid (show Block w6 (w.heap.size + 1) 36 #[.int .i64 q.c0, .int .i64 q.c1, .int .i64 q.c2, .slice Bs ms ds, .slice Bi mi di, .int .i64 q.v, .slice Ba ma da, .bool q.b, .int .i64 ((pre.length : Int) + 1), .int .i64 0] by rw [← hw6]; exact blk_sets K5.out (.int .i64 q.c0) (.int .i64 q.c1) (.int .i64 q.c2) (.slice Bs ms ds) (.slice Bi mi di) (.int .i64 q.v) (.slice Ba ma da) (.bool q.b) (.int .i64 ((pre.length : Int) + 1)) (.int .i64 0))
              have t6 : TurnsIn (fun x => x = w.heap.size + 1) w5 w6 := by rw [← hw6]; exact (((((((((((TurnsIn.refl (fun x => x = w.heap.size + 1) w5).setCell (p := ⟨w.heap.size + 1, 0, none⟩) (.inl rfl) (.int .i64 q.c0)).setCell (p := ⟨w.heap.size + 1, 1, none⟩) (.inl rfl) (.int .i64 q.c1)).setCell (p := ⟨w.heap.size + 1, 2, none⟩) (.inl rfl) (.int .i64 q.c2)).setCell (p := ⟨w.heap.size + 1, 3, none⟩) (.inl rfl) (.slice Bs ms ds)).setCell (p := ⟨w.heap.size + 1, 4, none⟩) (.inl rfl) (.slice Bi mi di)).setCell (p := ⟨w.heap.size + 1, 5, none⟩) (.inl rfl) (.int .i64 q.v)).setCell (p := ⟨w.heap.size + 1, 6, none⟩) (.inl rfl) (.slice Ba ma da)).setCell (p := ⟨w.heap.size + 1, 7, none⟩) (.inl rfl) (.bool q.b)).setCell (p := ⟨w.heap.size + 1, 8, none⟩) (.inl rfl) (.int .i64 ((pre.length : Int) + 1))).setCell (p := ⟨w.heap.size + 1, 9, none⟩) (.inl rfl) (.int .i64 0))
              rw [hw6]
              have hs6 := t6.size
              clear hw6 v0 v1 v2 v3 v4 v5 v6 v7 v8 v9 vz
              have B6 := Lib.hid (B5.out.trans (t6.toBelow B5.out.size (fun y hy h => by omega)))
              have K6 := Lib.hid (K50.out.out t6 (by omega))
              have R6 := Lib.hid (R5.out.out t6 (fun y h => by omega))
              have y9 : w6.cell? ⟨w.heap.size + 1, 9, none⟩ = some (.int .i64 0) := HX6.out.cell 9
              have hsz := HM.out.size
              clear t6 x0 x1 x2 x3 x4 x5 x6 x7 x8 x9
              unfold NoPan
              go_wp2_with fail
              go_roundw
              case rel => exact ⟨i + 1, i + 1, pre ++ [(numsOf (s.extract last i), true)], q, Bs, ms, ds, Bi, mi, di, Ba, ma, da, es5, Nat.le_refl _, hlt, by go_num, by go_num, Lib.hid ⟨by rw [HLM.out]; simp, fun j h1 h2 => by omega, by rw [HQ.out]; simp, by rw [List.length_append]; simp; omega, K6.out, by rw [List.length_append]; exact HX6.out, R6.out, B6.out, by omega⟩⟩
              case measure => simp [intOf] <;> omega
        · have f2 : (((s[i].toNat : Nat) : Int) == 10) = false := by rw [beq_eq_false_iff_ne]; omega
          have f3 : (s[i].toNat == 10) = false := by rw [beq_eq_false_iff_ne]; exact c0
          have HN := Lib.hid (show (numsOf s).getD i 0 ≠ 10 by rw [hc]; omega)
          clear hc c0
          go_wp2_with fail
          go_roundw
          case rel => exact ⟨last, i + 1, pre, p, As, ns, cs, Ai, ni, ci, Aa, na, ca, es, by omega, hlt, rfl, by go_num, Lib.hid ⟨HM.out.lines, fun j h1 h2 => by
              by_cases hj : j = i
              · rw [hj]; exact HN.out
              · exact HM.out.none_ j h1 (by omega), HM.out.run, HM.out.few, HM.out.b0, HM.out.b1, HM.out.rows, HM.out.bel, HM.out.size⟩⟩
          case measure => simp [intOf] <;> omega
      · obtain rfl : i = s.size := by omega
        have dj : decide ((s.size : Int) < (s.size : Int)) = false := decide_eq_false (by omega)
        have dj2 : decide (s.size < s.size) = false := decide_eq_false (by omega)
        have hfew := HM.out.few
        by_cases hl : last < s.size
        · have dl : decide ((last : Int) < (s.size : Int)) = true := decide_eq_true (by omega)
          have dl2 : decide (last < s.size) = true := decide_eq_true hl
          have hle := line_end hl HM.out.none_
          have HE := Lib.hid (show parseL (numsOf s) = .error (pre.length + 1, 22) by
            rw [HP.out, HM.out.lines, hle, runL_snoc, HM.out.run]; rfl)
          have hw8 : IntKind.i64.wrap ((pre.length : Int) + 1) = (pre.length : Int) + 1 := by rw [IntKind.wrap_i64]; omega
          have K9 := Lib.hid ((HM.out.b0.far (p := ⟨w.heap.size + 1, 8, none⟩) (by simp) (.int .i64 ((pre.length : Int) + 1))).far (p := ⟨w.heap.size + 1, 9, none⟩) (by simp) (.int .i64 22))
          have x0 : wr.cell? ⟨w.heap.size + 1, 0, none⟩ = some (.int .i64 p.c0) := HM.out.b1.cell 0
          have x1 : wr.cell? ⟨w.heap.size + 1, 1, none⟩ = some (.int .i64 p.c1) := HM.out.b1.cell 1
          have x2 : wr.cell? ⟨w.heap.size + 1, 2, none⟩ = some (.int .i64 p.c2) := HM.out.b1.cell 2
          have x3 : wr.cell? ⟨w.heap.size + 1, 3, none⟩ = some (.slice As ns cs) := HM.out.b1.cell 3
          have x4 : wr.cell? ⟨w.heap.size + 1, 4, none⟩ = some (.slice Ai ni ci) := HM.out.b1.cell 4
          have x5 : wr.cell? ⟨w.heap.size + 1, 5, none⟩ = some (.int .i64 p.v) := HM.out.b1.cell 5
          have x6 : wr.cell? ⟨w.heap.size + 1, 6, none⟩ = some (.slice Aa na ca) := HM.out.b1.cell 6
          have x7 : wr.cell? ⟨w.heap.size + 1, 7, none⟩ = some (.bool p.b) := HM.out.b1.cell 7
          have x8 : wr.cell? ⟨w.heap.size + 1, 8, none⟩ = some (.int .i64 pre.length) := HM.out.b1.cell 8
          have x9 : wr.cell? ⟨w.heap.size + 1, 9, none⟩ = some (.int .i64 0) := HM.out.b1.cell 9
          have xz := fun i => HM.out.b1.frozen i
          clear hle hl
          go_upto_region 22 with (fail)
          go_wp2_with (have _t := K9.out; refine wpList_store_blk (cs := zS.toArray) rfl _ _ _ rfl (ds := [.int .i64 p.c0, .int .i64 p.c1, .int .i64 p.c2, .slice As ns cs, .slice Ai ni ci, .int .i64 p.v, .slice Aa na ca, .bool p.b, .int .i64 ((pre.length : Int) + 1), .int .i64 22]) (by exact K9.out) rfl rfl rfl (by kernel_rfl) (by intro u hu; simp only [List.mem_cons, List.mem_nil_iff, or_false] at hu; rcases hu with rfl | rfl | rfl | rfl | rfl | rfl | rfl | rfl | rfl | rfl <;> rfl) ?_; clear _t; intro w7 X7 g7)
          have r0 : w7.cell? ⟨w.heap.size, 0, none⟩ = some (.int .i64 p.c0) := X7.cell 0
          have r1 : w7.cell? ⟨w.heap.size, 1, none⟩ = some (.int .i64 p.c1) := X7.cell 1
          have r2 : w7.cell? ⟨w.heap.size, 2, none⟩ = some (.int .i64 p.c2) := X7.cell 2
          have r3 : w7.cell? ⟨w.heap.size, 3, none⟩ = some (.slice As ns cs) := X7.cell 3
          have r4 : w7.cell? ⟨w.heap.size, 4, none⟩ = some (.slice Ai ni ci) := X7.cell 4
          have r5 : w7.cell? ⟨w.heap.size, 5, none⟩ = some (.int .i64 p.v) := X7.cell 5
          have r6 : w7.cell? ⟨w.heap.size, 6, none⟩ = some (.slice Aa na ca) := X7.cell 6
          have r7 : w7.cell? ⟨w.heap.size, 7, none⟩ = some (.bool p.b) := X7.cell 7
          have r8 : w7.cell? ⟨w.heap.size, 8, none⟩ = some (.int .i64 ((pre.length : Int) + 1)) := X7.cell 8
          have r9 : w7.cell? ⟨w.heap.size, 9, none⟩ = some (.int .i64 22) := X7.cell 9
          refine bodyPost_ret (v := .agg #[.int .i64 p.c0, .int .i64 p.c1, .int .i64 p.c2, .slice As ns cs, .slice Ai ni ci, .int .i64 p.v, .slice Aa na ca, .bool p.b, .int .i64 ((pre.length : Int) + 1), .int .i64 22]) ?_ rfl ?_
          · simp [results, Try.results11, go_sem, r0, r1, r2, r3, r4, r5, r6, r7, r8, r9]
          · have hb7 := (((HM.out.bel.setCell (p := ⟨w.heap.size + 1, 8, none⟩) (Nat.le_succ _) (.int .i64 ((pre.length : Int) + 1))).setCell (p := ⟨w.heap.size + 1, 9, none⟩) (Nat.le_succ _) (.int .i64 22))).grown g7 (((HM.out.bel.setCell (p := ⟨w.heap.size + 1, 8, none⟩) (Nat.le_succ _) (.int .i64 ((pre.length : Int) + 1))).setCell (p := ⟨w.heap.size + 1, 9, none⟩) (Nat.le_succ _) (.int .i64 22))).size (fun b hb => by injection hb with hb; omega)
            unfold RParseTo
            rw [HE.out]
            exact ⟨hb7, p, As, ns, cs, Ai, ni, ci, Aa, na, ca, rfl⟩
        have dl : decide ((last : Int) < (s.size : Int)) = false := decide_eq_false (by omega)
        have dl2 : decide (last < s.size) = false := decide_eq_false hl
        have HRUN := Lib.hid (show runL (linesL (numsOf s)) = .ok (pre.length, p) by
          rw [HM.out.lines, List.drop_of_length_le (by rw [HNL.out]; omega)]
          simp only [linesL, List.append_nil]
          exact HM.out.run)
        cases hb : p.b with
        | false =>
          have HE := Lib.hid (show parseL (numsOf s) = .error (0, 3) by rw [HP.out, HRUN.out]; simp only []; rw [if_neg (by rw [hb]; decide)])
          have K9 := Lib.hid ((HM.out.b0.far (p := ⟨w.heap.size + 1, 8, none⟩) (by simp) (.int .i64 0)).far (p := ⟨w.heap.size + 1, 9, none⟩) (by simp) (.int .i64 3))
          have x0 : wr.cell? ⟨w.heap.size + 1, 0, none⟩ = some (.int .i64 p.c0) := HM.out.b1.cell 0
          have x1 : wr.cell? ⟨w.heap.size + 1, 1, none⟩ = some (.int .i64 p.c1) := HM.out.b1.cell 1
          have x2 : wr.cell? ⟨w.heap.size + 1, 2, none⟩ = some (.int .i64 p.c2) := HM.out.b1.cell 2
          have x3 : wr.cell? ⟨w.heap.size + 1, 3, none⟩ = some (.slice As ns cs) := HM.out.b1.cell 3
          have x4 : wr.cell? ⟨w.heap.size + 1, 4, none⟩ = some (.slice Ai ni ci) := HM.out.b1.cell 4
          have x5 : wr.cell? ⟨w.heap.size + 1, 5, none⟩ = some (.int .i64 p.v) := HM.out.b1.cell 5
          have x6 : wr.cell? ⟨w.heap.size + 1, 6, none⟩ = some (.slice Aa na ca) := HM.out.b1.cell 6
          have x7 : wr.cell? ⟨w.heap.size + 1, 7, none⟩ = some (.bool p.b) := HM.out.b1.cell 7
          have x8 : wr.cell? ⟨w.heap.size + 1, 8, none⟩ = some (.int .i64 pre.length) := HM.out.b1.cell 8
          have x9 : wr.cell? ⟨w.heap.size + 1, 9, none⟩ = some (.int .i64 0) := HM.out.b1.cell 9
          have xz := fun i => HM.out.b1.frozen i
          rw [hb] at x7
          have HB0 := Lib.hid hb
          clear hb hl
          go_upto_region 26 with (fail)
          go_wp2_with (have _t := K9.out; refine wpList_store_blk (cs := zS.toArray) rfl _ _ _ rfl (ds := [.int .i64 p.c0, .int .i64 p.c1, .int .i64 p.c2, .slice As ns cs, .slice Ai ni ci, .int .i64 p.v, .slice Aa na ca, .bool false, .int .i64 0, .int .i64 3]) (by exact K9.out) rfl rfl rfl (by kernel_rfl) (by intro u hu; simp only [List.mem_cons, List.mem_nil_iff, or_false] at hu; rcases hu with rfl | rfl | rfl | rfl | rfl | rfl | rfl | rfl | rfl | rfl <;> rfl) ?_; clear _t; intro w7 X7 g7)
          have r0 : w7.cell? ⟨w.heap.size, 0, none⟩ = some (.int .i64 p.c0) := X7.cell 0
          have r1 : w7.cell? ⟨w.heap.size, 1, none⟩ = some (.int .i64 p.c1) := X7.cell 1
          have r2 : w7.cell? ⟨w.heap.size, 2, none⟩ = some (.int .i64 p.c2) := X7.cell 2
          have r3 : w7.cell? ⟨w.heap.size, 3, none⟩ = some (.slice As ns cs) := X7.cell 3
          have r4 : w7.cell? ⟨w.heap.size, 4, none⟩ = some (.slice Ai ni ci) := X7.cell 4
          have r5 : w7.cell? ⟨w.heap.size, 5, none⟩ = some (.int .i64 p.v) := X7.cell 5
          have r6 : w7.cell? ⟨w.heap.size, 6, none⟩ = some (.slice Aa na ca) := X7.cell 6
          have r7 : w7.cell? ⟨w.heap.size, 7, none⟩ = some (.bool false) := X7.cell 7
          have r8 : w7.cell? ⟨w.heap.size, 8, none⟩ = some (.int .i64 0) := X7.cell 8
          have r9 : w7.cell? ⟨w.heap.size, 9, none⟩ = some (.int .i64 3) := X7.cell 9
          refine bodyPost_ret (v := .agg #[.int .i64 p.c0, .int .i64 p.c1, .int .i64 p.c2, .slice As ns cs, .slice Ai ni ci, .int .i64 p.v, .slice Aa na ca, .bool false, .int .i64 0, .int .i64 3]) ?_ rfl ?_
          · simp [results, Try.results11, go_sem, r0, r1, r2, r3, r4, r5, r6, r7, r8, r9]
          · have hb7 := (((HM.out.bel.setCell (p := ⟨w.heap.size + 1, 8, none⟩) (Nat.le_succ _) (.int .i64 0)).setCell (p := ⟨w.heap.size + 1, 9, none⟩) (Nat.le_succ _) (.int .i64 3))).grown g7 (((HM.out.bel.setCell (p := ⟨w.heap.size + 1, 8, none⟩) (Nat.le_succ _) (.int .i64 0)).setCell (p := ⟨w.heap.size + 1, 9, none⟩) (Nat.le_succ _) (.int .i64 3))).size (fun b hb => by injection hb with hb; omega)
            unfold RParseTo
            rw [HE.out]
            exact ⟨hb7, { p with b := false }, As, ns, cs, Ai, ni, ci, Aa, na, ca, rfl⟩
        | true =>
          have HE := Lib.hid (show parseL (numsOf s) = .ok p by rw [HP.out, HRUN.out]; simp only []; rw [if_pos hb])
          have K9 := Lib.hid (HM.out.b0.far (p := ⟨w.heap.size + 1, 8, none⟩) (by simp) (.int .i64 0))
          have x0 : wr.cell? ⟨w.heap.size + 1, 0, none⟩ = some (.int .i64 p.c0) := HM.out.b1.cell 0
          have x1 : wr.cell? ⟨w.heap.size + 1, 1, none⟩ = some (.int .i64 p.c1) := HM.out.b1.cell 1
          have x2 : wr.cell? ⟨w.heap.size + 1, 2, none⟩ = some (.int .i64 p.c2) := HM.out.b1.cell 2
          have x3 : wr.cell? ⟨w.heap.size + 1, 3, none⟩ = some (.slice As ns cs) := HM.out.b1.cell 3
          have x4 : wr.cell? ⟨w.heap.size + 1, 4, none⟩ = some (.slice Ai ni ci) := HM.out.b1.cell 4
          have x5 : wr.cell? ⟨w.heap.size + 1, 5, none⟩ = some (.int .i64 p.v) := HM.out.b1.cell 5
          have x6 : wr.cell? ⟨w.heap.size + 1, 6, none⟩ = some (.slice Aa na ca) := HM.out.b1.cell 6
          have x7 : wr.cell? ⟨w.heap.size + 1, 7, none⟩ = some (.bool p.b) := HM.out.b1.cell 7
          have x8 : wr.cell? ⟨w.heap.size + 1, 8, none⟩ = some (.int .i64 pre.length) := HM.out.b1.cell 8
          have x9 : wr.cell? ⟨w.heap.size + 1, 9, none⟩ = some (.int .i64 0) := HM.out.b1.cell 9
          have xz := fun i => HM.out.b1.frozen i
          rw [hb] at x7
          have HB0 := Lib.hid hb
          clear hb hl
          go_upto_region 26 with (fail)
          go_wp2_with (have _t := K9.out; refine wpList_store_blk (cs := zS.toArray) rfl _ _ _ rfl (ds := [.int .i64 p.c0, .int .i64 p.c1, .int .i64 p.c2, .slice As ns cs, .slice Ai ni ci, .int .i64 p.v, .slice Aa na ca, .bool true, .int .i64 0, .int .i64 0]) (by exact K9.out) rfl rfl rfl (by kernel_rfl) (by intro u hu; simp only [List.mem_cons, List.mem_nil_iff, or_false] at hu; rcases hu with rfl | rfl | rfl | rfl | rfl | rfl | rfl | rfl | rfl | rfl <;> rfl) ?_; clear _t; intro w7 X7 g7)
          have r0 : w7.cell? ⟨w.heap.size, 0, none⟩ = some (.int .i64 p.c0) := X7.cell 0
          have r1 : w7.cell? ⟨w.heap.size, 1, none⟩ = some (.int .i64 p.c1) := X7.cell 1
          have r2 : w7.cell? ⟨w.heap.size, 2, none⟩ = some (.int .i64 p.c2) := X7.cell 2
          have r3 : w7.cell? ⟨w.heap.size, 3, none⟩ = some (.slice As ns cs) := X7.cell 3
          have r4 : w7.cell? ⟨w.heap.size, 4, none⟩ = some (.slice Ai ni ci) := X7.cell 4
          have r5 : w7.cell? ⟨w.heap.size, 5, none⟩ = some (.int .i64 p.v) := X7.cell 5
          have r6 : w7.cell? ⟨w.heap.size, 6, none⟩ = some (.slice Aa na ca) := X7.cell 6
          have r7 : w7.cell? ⟨w.heap.size, 7, none⟩ = some (.bool true) := X7.cell 7
          have r8 : w7.cell? ⟨w.heap.size, 8, none⟩ = some (.int .i64 0) := X7.cell 8
          have r9 : w7.cell? ⟨w.heap.size, 9, none⟩ = some (.int .i64 0) := X7.cell 9
          refine bodyPost_ret (v := .agg #[.int .i64 p.c0, .int .i64 p.c1, .int .i64 p.c2, .slice As ns cs, .slice Ai ni ci, .int .i64 p.v, .slice Aa na ca, .bool true, .int .i64 0, .int .i64 0]) ?_ rfl ?_
          · simp [results, Try.results11, go_sem, r0, r1, r2, r3, r4, r5, r6, r7, r8, r9]
          · have hb7 := ((HM.out.bel.setCell (p := ⟨w.heap.size + 1, 8, none⟩) (Nat.le_succ _) (.int .i64 0))).grown g7 ((HM.out.bel.setCell (p := ⟨w.heap.size + 1, 8, none⟩) (Nat.le_succ _) (.int .i64 0))).size (fun b hb => by injection hb with hb; omega)
            have t0 := (TurnsIn.refl (fun x => x = w.heap.size + 1) wr).setCell (p := ⟨w.heap.size + 1, 8, none⟩) (.inl rfl) (.int .i64 0)
            have t1 := TurnsIn.ofGrown (S := fun x => x = w.heap.size) g7 (fun b hb => by injection hb with hb; exact hb.symm)
            unfold RParseTo
            rw [HE.out]
            exact ⟨hb7, As, ns, cs, Ai, ni, ci, Aa, na, ca, es, by unfold sC; rw [HB0.out], ((HM.out.rows.out t0 (fun y h => by omega)).out t1 (fun y h => by omega)).mono (by omega)⟩
end Go.Proofs.Ytngeemfcmoahoaa.Tv
