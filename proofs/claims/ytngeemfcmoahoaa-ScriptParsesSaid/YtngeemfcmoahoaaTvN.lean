/-
  Layer 30, the document's first line: a contract. Conditions: as each theorem names.
-/
import Derived.Test.YtngeemfcmoahoaaTvJ
import Derived.Test.YtngeemfcmoahoaaArr
import Derived.Test.YtngeemfcmoahoaaStB
import Derived.Deep.MidRow
import Derived.Deep.Cut
namespace Go.Proofs.Ytngeemfcmoahoaa.Tv
open Go.ChangeShapes Go.WideShapes Go.ChangeAt Go.RowKit Go.Proofs.Ytngeemfcmoahoaa.Kit Go.Proofs.Ytngeemfcmoahoaa.Tx Go.Proofs.Ytngeemfcmoahoaa.Ty Go.Proofs.Ytngeemfcmoahoaa.Tz

/-- A whole block is stored over. -/
theorem wpList_store_blk {P : Program} {w : World} {ops : Array Oper} {rest : List Oper} {o : Oper} {a : Act} {Q : Exit → Act → World → Prop} (hgd : o.guard = none) (ty : TypeId) (x y : Operand) (ho : o.op = .store ty x y)
    {g : Nat} {t : TypeId} {cs : Array Value} {ds : List Value} (h : Block w g t cs) (hx : a.eval x = .pointer (some ⟨g, 0, none⟩)) (hy : a.eval y = .agg ds.toArray) (hl : ds.length = cs.size) (hi : (P.info? ty).map (·.size) = some ds.length) (hone : ∀ u ∈ ds, u.oneCell' = true)
    (hK : ∀ w', Block w' g t ds.toArray → w.grownBy w' (some g) → wpList P ops Q rest (a.put o.dst undef) w') : wpList P ops Q (o :: rest) a w := by
  refine wpList_store_mid hgd ty x y ho g 0 ds.toArray hx hy ?_ (by simpa using hi) (all_oneCell_toArray hone) ?_
  · intro j hj
    have hj' : j < cs.size := by simpa [hl] using hj
    exact ⟨by rw [Nat.zero_add, h.cell, Array.getElem?_eq_getElem hj']; rfl, by rw [Nat.zero_add]; exact h.frozen j⟩
  · refine hK _ ?_ (setCells_grown g _ 0 w)
    have := setCells_block ds 0 w _ h (by omega)
    have e : (cs.toList.take 0 ++ (ds ++ cs.toList.drop (0 + ds.length))).toArray = ds.toArray := by
      rw [List.drop_of_length_le (by simp [hl])]
      simp
    rw [e] at this
    simpa using this
theorem step_store_blk {P : Program} {ops : Array Oper} {o : Oper} {a : Act} {w : World} {K : Act → World → Prop} {Q : Exit → Act → World → Prop} {E : Prop} (hgd : o.guard = none) (ty : TypeId) (x y : Operand) (ho : o.op = .store ty x y)
    {g : Nat} {t : TypeId} {cs : Array Value} {ds : List Value} (h : Block w g t cs) (hx : a.eval x = .pointer (some ⟨g, 0, none⟩)) (hy : a.eval y = .agg ds.toArray) (hl : ds.length = cs.size) (hi : (P.info? ty).map (·.size) = some ds.length) (hone : ∀ u ∈ ds, u.oneCell' = true)
    (hK : ∀ w', Block w' g t ds.toArray → w.grownBy w' (some g) → K (a.put o.dst undef) w') : if Region.wanted o (yielded ops a.tmps) = true then Oper.wp P o a w K Q else E :=
  step_of_list (by simp [Region.wanted, hgd]) fun Q' hn => wpList_store_blk hgd ty x y ho h hx hy hl hi hone fun w' h1 h2 => hn _ _ (hK w' h1 h2)
/-- What was read by now, as the document keeps it. -/
def sC (p : PS) (vs vi va : Value) (ln e : Int) : List Value := [.int .i64 p.c0, .int .i64 p.c1, .int .i64 p.c2, vs, vi, .int .i64 p.v, va, .bool p.b, .int .i64 ln, .int .i64 e]
def zS : List Value := [.int .i64 0, .int .i64 0, .int .i64 0, .slice none 0 0, .slice none 0 0, .int .i64 0, .slice none 0 0, .bool false, .int .i64 0, .int .i64 0]
def BeginQ (p : PS) (vs vi va : Value) (ln e0 : Int) (t : List Int) (w : World) (e : Ending) (w' : World) : Prop :=
  Below w.heap.size w w' ∧ match beginP p (wordsL t) with
  | .error k => e = .returned (.agg (sC p vs vi va ln k).toArray)
  | .ok q => ∃ As ns cs Ai ni ci, e = .returned (.agg (sC q (.slice As ns cs) (.slice Ai ni ci) va ln e0).toArray) ∧ Own w' w.heap.size 5 .u8 (.slice As ns cs) q.sd ∧ Own w' w.heap.size 5 .u8 (.slice Ai ni ci) q.im
theorem fields_world {ws : List (List Int)} {ns : List Int} {ts : List (List Int)} (h : fieldsL ws worldF = some (ns, ts)) : ∃ (a0 a1 a2 a3 : Int) (t0 t1 : List Int), ns = [a0, a1, a2, a3] ∧ ts = [t0, t1] := by
  by_cases k : ¬ okN ws 1 ∨ ¬ okN ws 2 ∨ ¬ okN ws 3 ∨ ¬ okN ws 4 ∨ ¬ okT ws 5 ∨ ¬ okT ws 6 ∨ 7 < ws.length
  · rw [world_no k] at h; cases h
  · have h1 : okN ws 1 := Classical.byContradiction fun hh => k (.inl hh)
    have h2 : okN ws 2 := Classical.byContradiction fun hh => k (.inr (.inl hh))
    have h3 : okN ws 3 := Classical.byContradiction fun hh => k (.inr (.inr (.inl hh)))
    have h4 : okN ws 4 := Classical.byContradiction fun hh => k (.inr (.inr (.inr (.inl hh))))
    have h5 : okT ws 5 := Classical.byContradiction fun hh => k (.inr (.inr (.inr (.inr (.inl hh)))))
    have h6 : okT ws 6 := Classical.byContradiction fun hh => k (.inr (.inr (.inr (.inr (.inr (.inl hh))))))
    have h7 : ws.length ≤ 7 := by
      have : ¬ 7 < ws.length := fun hh => k (.inr (.inr (.inr (.inr (.inr (.inr hh))))))
      omega
    rw [world_yes h1 h2 h3 h4 h5 h6 h7] at h
    cases h
    exact ⟨_, _, _, _, _, _, rfl, rfl⟩

set_option maxRecDepth 100000 in
set_option maxHeartbeats 12800000 in
theorem rbegin_any (p : PS) (As Ai Aa : Option Addr) (ns cs ni ci na ca : Nat) (ln e0 : Int) (s : ByteArray) (w : World) (hs : s.size ≤ 100000) :
    Calls Try.prog 35 #[.agg (sC p (.slice As ns cs) (.slice Ai ni ci) (.slice Aa na ca) ln e0).toArray, .string s] w (BeginQ p (.slice As ns cs) (.slice Ai ni ci) (.slice Aa na ca) ln e0 (numsOf s) w) := by
  have B0 := (Below.refl w.heap.size w).alloc (Nat.le_refl _) (.cells (sC p (.slice As ns cs) (.slice Ai ni ci) (.slice Aa na ca) ln e0).toArray 36)
  have B1 := B0.alloc B0.size (.cells zS.toArray 36)
  have k2 := (Block.new w 36 (sC p (.slice As ns cs) (.slice Ai ni ci) (.slice Aa na ca) ln e0).toArray).alloc (.cells zS.toArray 36)
  have k4 := Block.new (w.alloc (.cells (sC p (.slice As ns cs) (.slice Ai ni ci) (.slice Aa na ca) ln e0).toArray 36)) 36 zS.toArray
  rw [show (w.alloc (.cells (sC p (.slice As ns cs) (.slice Ai ni ci) (.slice Aa na ca) ln e0).toArray 36)).heap.size = w.heap.size + 1 by simp] at k4
  obtain ⟨W1, hW1⟩ : ∃ W1, ((w.alloc (.cells (sC p (.slice As ns cs) (.slice Ai ni ci) (.slice Aa na ca) ln e0).toArray 36)).alloc (.cells zS.toArray 36)) = W1 := ⟨_, rfl⟩
  rw [hW1] at B1 k2 k4
  have HW1 := Lib.hid hW1
  have hw1s : W1.heap.size = w.heap.size + 2 := by rw [← hW1]; simp
  have GW := Lib.hid (rwords_any s W1 (by omega))
  have HB1 := Lib.hid B1
  have HK2 := Lib.hid k2
  have HK4 := Lib.hid k4
  have HW1S := Lib.hid hw1s
  have hwl := wordsL_length (numsOf s)
  rw [numsOf_length] at hwl
  have hw0 := ws_pos (numsOf s)
  have HOC := Lib.hid (ws_oct (numsOf_octets s) (by rw [numsOf_length]; omega))
  have HN5 := Lib.hid (nums_str (xs := worldF) (show Octets worldF by unfold Octets; decide))
  have HSF : (⟨#[110, 110, 110, 110, 116, 116]⟩ : ByteArray) = strOfNums worldF := rfl
  clear B0 B1 k2 k4 hW1 hw1s
  unfold sC
  go_enter Try.func35, Try.ntmps35
  go_wp2_with fail
  have hx1 := HW1.out
  unfold sC zS at hx1
  rw [hx1]
  clear hx1
  refine GW.out.mono ?_
  rintro e w3 ⟨v3, rfl, own3, hb3⟩
  obtain ⟨A3, c3, rfl, _, _⟩ := own3.opened
  rw [List.length_map] at own3 ⊢
  obtain ⟨g3, rfl, hg3, hc0⟩ := own3.cellAt (i := 0) (by rw [List.length_map]; exact hw0)
  rw [List.getElem_map] at hc0
  obtain ⟨ws, hws⟩ : ∃ ws, wordsL (numsOf s) = ws := ⟨_, rfl⟩
  have hoc := HOC.out
  have hBQ : ∀ (e : Ending) (w' : World), BeginQ p (.slice As ns cs) (.slice Ai ni ci) (.slice Aa na ca) ln e0 (numsOf s) w e w' ↔ Below w.heap.size w w' ∧ match beginP p ws with
    | .error k => e = .returned (.agg (sC p (.slice As ns cs) (.slice Ai ni ci) (.slice Aa na ca) ln k).toArray)
    | .ok q => ∃ As ns cs Ai ni ci, e = .returned (.agg (sC q (.slice As ns cs) (.slice Ai ni ci) (.slice Aa na ca) ln e0).toArray) ∧ Own w' w.heap.size 5 .u8 (.slice As ns cs) q.sd ∧ Own w' w.heap.size 5 .u8 (.slice Ai ni ci) q.im := fun e w' => by
    unfold BeginQ
    rw [hws]
  have HBQ := Lib.hid hBQ
  simp only [hws] at hc0 own3 hw0 hwl hoc ⊢
  have hc0' : w3.cell? ⟨g3, 0, none⟩ = some (.string (strOfNums (ws.getD 0 []))) := by
    rw [hc0, List.getD_eq_getElem?_getD, List.getElem?_eq_getElem hw0]
    rfl
  have HT : Hid (HoldsT w3 w3.heap.size (some ⟨g3, 0, none⟩) ws) := Lib.hid (fun _ => ⟨g3, 0, rfl, hg3, fun j hj => by
    obtain ⟨g', e', _, hcj⟩ := own3.cellAt (i := j) (by rw [List.length_map]; exact hj)
    injection e' with e'
    injection e' with e1 e2 e3
    subst e1
    rw [List.getElem_map] at hcj
    rw [Nat.zero_add, List.getD_eq_getElem?_getD, List.getElem?_eq_getElem hj]
    exact hcj⟩)
  have HGF := Lib.hid (by have := rfields_any (some ⟨g3, 0, none⟩) ws c3 (strOfNums worldF) w3 (by rw [strOfNums_size]; decide) (by omega) hoc HT.out; rw [HN5.out] at this; exact this)
  have hb3w : Below w.heap.size w w3 := HB1.out.trans (hb3.mono HB1.out.size)
  have q2 := HK2.out.below hb3 (by rw [HW1S.out]; omega)
  have q4 := HK4.out.below hb3 (by rw [HW1S.out]; omega)
  have HQ2 := Lib.hid q2
  have HQ4 := Lib.hid q4
  have HB3 := Lib.hid hb3w
  have hs3 : w.heap.size + 2 ≤ w3.heap.size := by have := hb3.size; rw [HW1S.out] at this; exact this
  obtain ⟨fw, hfw⟩ : ∃ fw, strOfNums (ws.getD 0 []) = fw := ⟨_, rfl⟩
  have HNF := Lib.hid (show numsOf fw = ws.getD 0 [] by rw [← hfw]; exact nums_str (octets_mem hoc 0).1)
  rw [hfw] at hc0'
  rw [HSF] at *
  clear hc0 own3 hb3 hb3w q2 q4 hws hfw hBQ hoc HOC
  by_cases hwd : numsOf fw = worldW
  case neg =>
    have HE := Lib.hid (show beginP p ws = .error 21 by unfold beginP; rw [if_neg (by rw [← HNF.out]; exact hwd)])
    have f0 : (fw.toList == [119, 111, 114, 108, 100]) = false := toList_ne hwd
    have x0 : w3.cell? ⟨w.heap.size, 0, none⟩ = some (.int .i64 p.c0) := HQ2.out.cell 0
    have x1 : w3.cell? ⟨w.heap.size, 1, none⟩ = some (.int .i64 p.c1) := HQ2.out.cell 1
    have x2 : w3.cell? ⟨w.heap.size, 2, none⟩ = some (.int .i64 p.c2) := HQ2.out.cell 2
    have x3 : w3.cell? ⟨w.heap.size, 3, none⟩ = some (.slice As ns cs) := HQ2.out.cell 3
    have x4 : w3.cell? ⟨w.heap.size, 4, none⟩ = some (.slice Ai ni ci) := HQ2.out.cell 4
    have x5 : w3.cell? ⟨w.heap.size, 5, none⟩ = some (.int .i64 p.v) := HQ2.out.cell 5
    have x6 : w3.cell? ⟨w.heap.size, 6, none⟩ = some (.slice Aa na ca) := HQ2.out.cell 6
    have x7 : w3.cell? ⟨w.heap.size, 7, none⟩ = some (.bool p.b) := HQ2.out.cell 7
    have x8 : w3.cell? ⟨w.heap.size, 8, none⟩ = some (.int .i64 ln) := HQ2.out.cell 8
    have x9 : w3.cell? ⟨w.heap.size, 9, none⟩ = some (.int .i64 e0) := HQ2.out.cell 9
    have xz := fun i => HQ2.out.frozen i
    have B4 := HQ4.out.far (p := ⟨w.heap.size, 9, none⟩) (by simp) (.int .i64 21)
    clear hwd
    go_wp2_with (have _t := B4; refine wpList_store_blk (cs := zS.toArray) rfl _ _ _ rfl (ds := [.int .i64 p.c0, .int .i64 p.c1, .int .i64 p.c2, .slice As ns cs, .slice Ai ni ci, .int .i64 p.v, .slice Aa na ca, .bool p.b, .int .i64 ln, .int .i64 21]) (by exact B4) rfl rfl rfl (by kernel_rfl) (by intro u hu; simp only [List.mem_cons, List.mem_nil_iff, or_false] at hu; rcases hu with rfl | rfl | rfl | rfl | rfl | rfl | rfl | rfl | rfl | rfl <;> rfl) ?_; clear _t; intro w7 X7 g7)
    have r0 : w7.cell? ⟨w.heap.size + 1, 0, none⟩ = some (.int .i64 p.c0) := X7.cell 0
    have r1 : w7.cell? ⟨w.heap.size + 1, 1, none⟩ = some (.int .i64 p.c1) := X7.cell 1
    have r2 : w7.cell? ⟨w.heap.size + 1, 2, none⟩ = some (.int .i64 p.c2) := X7.cell 2
    have r3 : w7.cell? ⟨w.heap.size + 1, 3, none⟩ = some (.slice As ns cs) := X7.cell 3
    have r4 : w7.cell? ⟨w.heap.size + 1, 4, none⟩ = some (.slice Ai ni ci) := X7.cell 4
    have r5 : w7.cell? ⟨w.heap.size + 1, 5, none⟩ = some (.int .i64 p.v) := X7.cell 5
    have r6 : w7.cell? ⟨w.heap.size + 1, 6, none⟩ = some (.slice Aa na ca) := X7.cell 6
    have r7 : w7.cell? ⟨w.heap.size + 1, 7, none⟩ = some (.bool p.b) := X7.cell 7
    have r8 : w7.cell? ⟨w.heap.size + 1, 8, none⟩ = some (.int .i64 ln) := X7.cell 8
    have r9 : w7.cell? ⟨w.heap.size + 1, 9, none⟩ = some (.int .i64 21) := X7.cell 9
    refine bodyPost_ret (v := .agg #[.int .i64 p.c0, .int .i64 p.c1, .int .i64 p.c2, .slice As ns cs, .slice Ai ni ci, .int .i64 p.v, .slice Aa na ca, .bool p.b, .int .i64 ln, .int .i64 21]) ?_ rfl ?_
    · simp [results, Try.results35, go_sem, r0, r1, r2, r3, r4, r5, r6, r7, r8, r9]
    · have hb7 := (HB3.out.setCell (p := ⟨w.heap.size, 9, none⟩) (Nat.le_refl _) (.int .i64 21)).grown g7 (HB3.out.setCell (p := ⟨w.heap.size, 9, none⟩) (Nat.le_refl _) (.int .i64 21)).size (fun b hb => by injection hb with hb; omega)
      refine (HBQ.out _ _).2 ?_
      rw [HE.out]
      exact ⟨hb7, rfl⟩
  have HBE := Lib.hid (show beginP p ws = match fieldsL ws worldF with
    | none => .error 3
    | some (ns, ts) => .ok ⟨true, ns.getD 0 0, ns.getD 1 0, ns.getD 2 0, ts.getD 0 [], ts.getD 1 [], ns.getD 3 0, p.al⟩ by unfold beginP; rw [if_pos (by rw [← HNF.out]; exact hwd)]; rfl)
  have f0 : (fw.toList == [119, 111, 114, 108, 100]) = true := toList_yes hwd
  clear hwd
  go_wp2_with fail
  refine HGF.out.mono ?_
  rintro e w5 ⟨_, _, ok, ns', es, ⟨AN, nN, cN, rfl⟩, ⟨AT, nT, cT, rfl⟩, rfl, hbad, hgood, hb5⟩
  have hs5 : w.heap.size + 2 ≤ w5.heap.size := Nat.le_trans hs3 hb5.size
  have q2 := HQ2.out.below hb5 (by omega)
  have q4 := HQ4.out.below hb5 (by omega)
  have HB5 := Lib.hid (HB3.out.trans (hb5.mono HB3.out.size))
  have hs35 := hb5.size
  clear hb5
  have p2 := q2.alloc (.cells #[.slice AN nN cN, .slice AT nT cT] 92)
  have p4 := q4.alloc (.cells #[.slice AN nN cN, .slice AT nT cT] 92)
  have pf := Block.new w5 92 #[.slice AN nN cN, .slice AT nT cT]
  have HBA := Lib.hid (HB5.out.alloc (by omega) (.cells #[.slice AN nN cN, .slice AT nT cT] 92))
  have HP4 := Lib.hid p4
  have HP2 := Lib.hid p2
  have HPF := Lib.hid pf
  clear q2 q4 p2 p4 pf
  cases ok with
  | false =>
    have HE := Lib.hid (show beginP p ws = .error 3 by rw [HBE.out, hbad rfl])
    clear hbad hgood
    have x0 : (w5.alloc (.cells #[.slice AN nN cN, .slice AT nT cT] 92)).cell? ⟨w.heap.size, 0, none⟩ = some (.int .i64 p.c0) := HP2.out.cell 0
    have x1 : (w5.alloc (.cells #[.slice AN nN cN, .slice AT nT cT] 92)).cell? ⟨w.heap.size, 1, none⟩ = some (.int .i64 p.c1) := HP2.out.cell 1
    have x2 : (w5.alloc (.cells #[.slice AN nN cN, .slice AT nT cT] 92)).cell? ⟨w.heap.size, 2, none⟩ = some (.int .i64 p.c2) := HP2.out.cell 2
    have x3 : (w5.alloc (.cells #[.slice AN nN cN, .slice AT nT cT] 92)).cell? ⟨w.heap.size, 3, none⟩ = some (.slice As ns cs) := HP2.out.cell 3
    have x4 : (w5.alloc (.cells #[.slice AN nN cN, .slice AT nT cT] 92)).cell? ⟨w.heap.size, 4, none⟩ = some (.slice Ai ni ci) := HP2.out.cell 4
    have x5 : (w5.alloc (.cells #[.slice AN nN cN, .slice AT nT cT] 92)).cell? ⟨w.heap.size, 5, none⟩ = some (.int .i64 p.v) := HP2.out.cell 5
    have x6 : (w5.alloc (.cells #[.slice AN nN cN, .slice AT nT cT] 92)).cell? ⟨w.heap.size, 6, none⟩ = some (.slice Aa na ca) := HP2.out.cell 6
    have x7 : (w5.alloc (.cells #[.slice AN nN cN, .slice AT nT cT] 92)).cell? ⟨w.heap.size, 7, none⟩ = some (.bool p.b) := HP2.out.cell 7
    have x8 : (w5.alloc (.cells #[.slice AN nN cN, .slice AT nT cT] 92)).cell? ⟨w.heap.size, 8, none⟩ = some (.int .i64 ln) := HP2.out.cell 8
    have x9 : (w5.alloc (.cells #[.slice AN nN cN, .slice AT nT cT] 92)).cell? ⟨w.heap.size, 9, none⟩ = some (.int .i64 e0) := HP2.out.cell 9
    have xz := fun i => HP2.out.frozen i
    have B4 := HP4.out.far (p := ⟨w.heap.size, 9, none⟩) (by simp) (.int .i64 3)
    go_wp2_with (have _t := B4; refine wpList_store_blk (cs := zS.toArray) rfl _ _ _ rfl (ds := [.int .i64 p.c0, .int .i64 p.c1, .int .i64 p.c2, .slice As ns cs, .slice Ai ni ci, .int .i64 p.v, .slice Aa na ca, .bool p.b, .int .i64 ln, .int .i64 3]) (by exact B4) rfl rfl rfl (by kernel_rfl) (by intro u hu; simp only [List.mem_cons, List.mem_nil_iff, or_false] at hu; rcases hu with rfl | rfl | rfl | rfl | rfl | rfl | rfl | rfl | rfl | rfl <;> rfl) ?_; clear _t; intro w7 X7 g7)
    have r0 : w7.cell? ⟨w.heap.size + 1, 0, none⟩ = some (.int .i64 p.c0) := X7.cell 0
    have r1 : w7.cell? ⟨w.heap.size + 1, 1, none⟩ = some (.int .i64 p.c1) := X7.cell 1
    have r2 : w7.cell? ⟨w.heap.size + 1, 2, none⟩ = some (.int .i64 p.c2) := X7.cell 2
    have r3 : w7.cell? ⟨w.heap.size + 1, 3, none⟩ = some (.slice As ns cs) := X7.cell 3
    have r4 : w7.cell? ⟨w.heap.size + 1, 4, none⟩ = some (.slice Ai ni ci) := X7.cell 4
    have r5 : w7.cell? ⟨w.heap.size + 1, 5, none⟩ = some (.int .i64 p.v) := X7.cell 5
    have r6 : w7.cell? ⟨w.heap.size + 1, 6, none⟩ = some (.slice Aa na ca) := X7.cell 6
    have r7 : w7.cell? ⟨w.heap.size + 1, 7, none⟩ = some (.bool p.b) := X7.cell 7
    have r8 : w7.cell? ⟨w.heap.size + 1, 8, none⟩ = some (.int .i64 ln) := X7.cell 8
    have r9 : w7.cell? ⟨w.heap.size + 1, 9, none⟩ = some (.int .i64 3) := X7.cell 9
    refine bodyPost_ret (v := .agg #[.int .i64 p.c0, .int .i64 p.c1, .int .i64 p.c2, .slice As ns cs, .slice Ai ni ci, .int .i64 p.v, .slice Aa na ca, .bool p.b, .int .i64 ln, .int .i64 3]) ?_ rfl ?_
    · simp [results, Try.results35, go_sem, r0, r1, r2, r3, r4, r5, r6, r7, r8, r9]
    · have hb7 := (HBA.out.setCell (p := ⟨w.heap.size, 9, none⟩) (Nat.le_refl _) (.int .i64 3)).grown g7 (HBA.out.setCell (p := ⟨w.heap.size, 9, none⟩) (Nat.le_refl _) (.int .i64 3)).size (fun b hb => by injection hb with hb; omega)
      refine (HBQ.out _ _).2 ?_
      rw [HE.out]
      exact ⟨hb7, rfl⟩
  | true =>
    obtain ⟨hfl, oN, oT⟩ := hgood rfl
    obtain ⟨a0, a1, a2, a3, t0, t1, rfl, hts⟩ := fields_world hfl
    have HE := Lib.hid (show beginP p ws = .ok ⟨true, a0, a1, a2, t0, t1, a3, p.al⟩ by rw [HBE.out, hfl, hts]; rfl)
    match es, hts, oT with
    | [(u4, y4), (u5, y5)], hts, oT =>
      obtain ⟨rfl, rfl⟩ : y4 = t0 ∧ y5 = t1 := by simpa using hts
      have o4 := (oT.each (u4, y4) (by simp))
      have o5 := (oT.each (u5, y5) (by simp))
      obtain ⟨gN, rfl, hnN, hgN, cN0⟩ := own_cells oN (by simp)
      obtain ⟨AT2, cT2, hvT, _, _⟩ := oT.row.opened
      injection hvT with e1 e2 e3
      subst e1 e2 e3
      obtain ⟨gT, hgT, hgTl, cT0⟩ := oT.row.cellAt (i := 0) (by simp)
      obtain ⟨gT', hgT', _, cT1⟩ := oT.row.cellAt (i := 1) (by simp)
      subst hgT
      obtain rfl : gT = gT' := by injection hgT' with e; injection e with e
      subst hnN
      have n0 := cN0 0 (by simp)
      have n1 := cN0 1 (by simp)
      have n2 := cN0 2 (by simp)
      have n3 := cN0 3 (by simp)
      simp at n0 n1 n2 n3 cT0 cT1
      obtain ⟨A4, n4, c4, rfl⟩ : ∃ A n c, u4 = .slice A n c := by obtain ⟨A, c, h, _⟩ := o4.opened; exact ⟨A, _, c, h⟩
      obtain ⟨A5, n5, c5, rfl⟩ : ∃ A n c, u5 = .slice A n c := by obtain ⟨A, c, h, _⟩ := o5.opened; exact ⟨A, _, c, h⟩
      have hbN := (oN.lt gN rfl).1
      have hbT := (oT.row.lt gT rfl).1
      have HO4 := Lib.hid o4
      have HO5 := Lib.hid o5
      simp only [List.map_cons, List.map_nil, List.length_cons, List.length_nil, Nat.zero_add, Nat.reduceAdd] at HP4 HP2 HPF HBA ⊢
      have hal : Below w5.heap.size w5 (w5.alloc (.cells #[.slice (some ⟨gN, 0, none⟩) 4 cN, .slice (some ⟨gT, 0, none⟩) 2 cT] 92)) := (Below.refl _ _).alloc (Nat.le_refl _) _
      have m0 : (w5.alloc (.cells #[.slice (some ⟨gN, 0, none⟩) 4 cN, .slice (some ⟨gT, 0, none⟩) 2 cT] 92)).cell? ⟨gN, 0, none⟩ = some (.int .i64 a0) := (hal.cell hgN).trans n0
      have m1 : (w5.alloc (.cells #[.slice (some ⟨gN, 0, none⟩) 4 cN, .slice (some ⟨gT, 0, none⟩) 2 cT] 92)).cell? ⟨gN, 1, none⟩ = some (.int .i64 a1) := (hal.cell (p := ⟨gN, 1, none⟩) hgN).trans n1
      have m2 : (w5.alloc (.cells #[.slice (some ⟨gN, 0, none⟩) 4 cN, .slice (some ⟨gT, 0, none⟩) 2 cT] 92)).cell? ⟨gN, 2, none⟩ = some (.int .i64 a2) := (hal.cell (p := ⟨gN, 2, none⟩) hgN).trans n2
      have m3 : (w5.alloc (.cells #[.slice (some ⟨gN, 0, none⟩) 4 cN, .slice (some ⟨gT, 0, none⟩) 2 cT] 92)).cell? ⟨gN, 3, none⟩ = some (.int .i64 a3) := (hal.cell (p := ⟨gN, 3, none⟩) hgN).trans n3
      have mT0 : (w5.alloc (.cells #[.slice (some ⟨gN, 0, none⟩) 4 cN, .slice (some ⟨gT, 0, none⟩) 2 cT] 92)).cell? ⟨gT, 0, none⟩ = some (.slice A4 n4 c4) := (hal.cell (p := ⟨gT, 0, none⟩) hgTl).trans cT0
      have mT1 : (w5.alloc (.cells #[.slice (some ⟨gN, 0, none⟩) 4 cN, .slice (some ⟨gT, 0, none⟩) 2 cT] 92)).cell? ⟨gT, 1, none⟩ = some (.slice A5 n5 c5) := (hal.cell (p := ⟨gT, 1, none⟩) hgTl).trans cT1
      have HM := Lib.hid (And.intro m3 (And.intro mT0 mT1))
      have hw8 : IntKind.i64.wrap 0 = 0 := by decide
      clear n0 n1 n2 n3 cT0 cT1 oN oT o4 o5 hfl hbad hgood hts m3 mT0 mT1 hw8
      have x0 : (w5.alloc (.cells #[.slice (some ⟨gN, 0, none⟩) 4 cN, .slice (some ⟨gT, 0, none⟩) 2 cT] 92)).cell? ⟨w.heap.size, 0, none⟩ = some (.int .i64 p.c0) := HP2.out.cell 0
      have x1 : (w5.alloc (.cells #[.slice (some ⟨gN, 0, none⟩) 4 cN, .slice (some ⟨gT, 0, none⟩) 2 cT] 92)).cell? ⟨w.heap.size, 1, none⟩ = some (.int .i64 p.c1) := HP2.out.cell 1
      have x2 : (w5.alloc (.cells #[.slice (some ⟨gN, 0, none⟩) 4 cN, .slice (some ⟨gT, 0, none⟩) 2 cT] 92)).cell? ⟨w.heap.size, 2, none⟩ = some (.int .i64 p.c2) := HP2.out.cell 2
      have x3 : (w5.alloc (.cells #[.slice (some ⟨gN, 0, none⟩) 4 cN, .slice (some ⟨gT, 0, none⟩) 2 cT] 92)).cell? ⟨w.heap.size, 3, none⟩ = some (.slice As ns cs) := HP2.out.cell 3
      have x4 : (w5.alloc (.cells #[.slice (some ⟨gN, 0, none⟩) 4 cN, .slice (some ⟨gT, 0, none⟩) 2 cT] 92)).cell? ⟨w.heap.size, 4, none⟩ = some (.slice Ai ni ci) := HP2.out.cell 4
      have x5 : (w5.alloc (.cells #[.slice (some ⟨gN, 0, none⟩) 4 cN, .slice (some ⟨gT, 0, none⟩) 2 cT] 92)).cell? ⟨w.heap.size, 5, none⟩ = some (.int .i64 p.v) := HP2.out.cell 5
      have x6 : (w5.alloc (.cells #[.slice (some ⟨gN, 0, none⟩) 4 cN, .slice (some ⟨gT, 0, none⟩) 2 cT] 92)).cell? ⟨w.heap.size, 6, none⟩ = some (.slice Aa na ca) := HP2.out.cell 6
      have x7 : (w5.alloc (.cells #[.slice (some ⟨gN, 0, none⟩) 4 cN, .slice (some ⟨gT, 0, none⟩) 2 cT] 92)).cell? ⟨w.heap.size, 7, none⟩ = some (.bool p.b) := HP2.out.cell 7
      have x8 : (w5.alloc (.cells #[.slice (some ⟨gN, 0, none⟩) 4 cN, .slice (some ⟨gT, 0, none⟩) 2 cT] 92)).cell? ⟨w.heap.size, 8, none⟩ = some (.int .i64 ln) := HP2.out.cell 8
      have x9 : (w5.alloc (.cells #[.slice (some ⟨gN, 0, none⟩) 4 cN, .slice (some ⟨gT, 0, none⟩) 2 cT] 92)).cell? ⟨w.heap.size, 9, none⟩ = some (.int .i64 e0) := HP2.out.cell 9
      have xz := fun i => HP2.out.frozen i
      go_wp2_with fail
      refine wp_region_held_drew (S := (fun W' : World => Block W' w5.heap.size 92 #[.slice (some ⟨gN, 0, none⟩) 4 cN, .slice (some ⟨gT, 0, none⟩) 2 cT] ∧ W'.heap[gN]? = (w5.alloc (.cells #[.slice (some ⟨gN, 0, none⟩) 4 cN, .slice (some ⟨gT, 0, none⟩) 2 cT] 92)).heap[gN]?)) (by kernel_rfl) ⟨HPF.out, rfl⟩ (fun hS => ?_)
      refine wpAnyH_take (i := 0) (oi := ⟨some 25, _, _, _, _, _⟩) (v := .pointer (some ⟨w5.heap.size, 0, none⟩)) rfl (by kernel_rfl) (by kernel_rfl) (by kernel_rfl) (fun _ _ _ h => h) (Or.inl ⟨by rfl, fun W hW => by go_simp⟩) hS ?_
      try simp only [Act.put, List.setIfInBounds_toArray, List.set_cons_zero, List.set_cons_succ]
      refine wpAnyH_take (i := 1) (oi := ⟨some 26, _, _, _, _, _⟩) (v := .slice (some ⟨gN, 0, none⟩) 4 cN) rfl (by kernel_rfl) (by kernel_rfl) (by kernel_rfl) (fun _ _ _ h => h) (Or.inl ⟨by rfl, fun W hW => by have k0 : W.cell? ⟨w5.heap.size, 0, none⟩ = some (.slice (some ⟨gN, 0, none⟩) 4 cN) := hW.1.cell 0; go_simp⟩) hS ?_
      try simp only [Act.put, List.setIfInBounds_toArray, List.set_cons_zero, List.set_cons_succ]
      refine wpAnyH_take (i := 2) (oi := ⟨some 27, _, _, _, _, _⟩) (v := .pointer (some ⟨gN, 0, none⟩)) rfl (by kernel_rfl) (by kernel_rfl) (by kernel_rfl) (fun _ _ _ h => h) (Or.inl ⟨by rfl, fun W hW => by go_simp⟩) hS ?_
      try simp only [Act.put, List.setIfInBounds_toArray, List.set_cons_zero, List.set_cons_succ]
      refine wpAnyH_take (i := 3) (oi := ⟨some 28, _, _, _, _, _⟩) (v := .int .i64 a0) rfl (by kernel_rfl) (by kernel_rfl) (by kernel_rfl) (fun _ _ _ h => h) (Or.inl ⟨by rfl, fun W hW => by have k0 : W.cell? ⟨gN, 0, none⟩ = some (.int .i64 a0) := (World.cell?_of_block (w := (w5.alloc (.cells #[.slice (some ⟨gN, 0, none⟩) 4 cN, .slice (some ⟨gT, 0, none⟩) 2 cT] 92))) hW.2).trans m0; go_simp⟩) hS ?_
      try simp only [Act.put, List.setIfInBounds_toArray, List.set_cons_zero, List.set_cons_succ]
      refine wpAnyH_take (i := 4) (oi := ⟨some 29, _, _, _, _, _⟩) (v := .pointer (some ⟨w5.heap.size, 0, none⟩)) rfl (by kernel_rfl) (by kernel_rfl) (by kernel_rfl) (fun _ _ _ h => h) (Or.inl ⟨by rfl, fun W hW => by go_simp⟩) hS ?_
      try simp only [Act.put, List.setIfInBounds_toArray, List.set_cons_zero, List.set_cons_succ]
      refine wpAnyH_take (i := 5) (oi := ⟨some 30, _, _, _, _, _⟩) (v := .slice (some ⟨gN, 0, none⟩) 4 cN) rfl (by kernel_rfl) (by kernel_rfl) (by kernel_rfl) (fun _ _ _ h => h) (Or.inl ⟨by rfl, fun W hW => by have k0 : W.cell? ⟨w5.heap.size, 0, none⟩ = some (.slice (some ⟨gN, 0, none⟩) 4 cN) := hW.1.cell 0; go_simp⟩) hS ?_
      try simp only [Act.put, List.setIfInBounds_toArray, List.set_cons_zero, List.set_cons_succ]
      refine wpAnyH_take (i := 6) (oi := ⟨some 31, _, _, _, _, _⟩) (v := .pointer (some ⟨gN, 1, none⟩)) rfl (by kernel_rfl) (by kernel_rfl) (by kernel_rfl) (fun _ _ _ h => h) (Or.inl ⟨by rfl, fun W hW => by go_simp⟩) hS ?_
      try simp only [Act.put, List.setIfInBounds_toArray, List.set_cons_zero, List.set_cons_succ]
      refine wpAnyH_take (i := 7) (oi := ⟨some 32, _, _, _, _, _⟩) (v := .int .i64 a1) rfl (by kernel_rfl) (by kernel_rfl) (by kernel_rfl) (fun _ _ _ h => h) (Or.inl ⟨by rfl, fun W hW => by have k0 : W.cell? ⟨gN, 1, none⟩ = some (.int .i64 a1) := (World.cell?_of_block (w := (w5.alloc (.cells #[.slice (some ⟨gN, 0, none⟩) 4 cN, .slice (some ⟨gT, 0, none⟩) 2 cT] 92))) hW.2).trans m1; go_simp⟩) hS ?_
      try simp only [Act.put, List.setIfInBounds_toArray, List.set_cons_zero, List.set_cons_succ]
      refine wpAnyH_take (i := 8) (oi := ⟨some 33, _, _, _, _, _⟩) (v := .pointer (some ⟨w5.heap.size, 0, none⟩)) rfl (by kernel_rfl) (by kernel_rfl) (by kernel_rfl) (fun _ _ _ h => h) (Or.inl ⟨by rfl, fun W hW => by go_simp⟩) hS ?_
      try simp only [Act.put, List.setIfInBounds_toArray, List.set_cons_zero, List.set_cons_succ]
      refine wpAnyH_take (i := 9) (oi := ⟨some 34, _, _, _, _, _⟩) (v := .slice (some ⟨gN, 0, none⟩) 4 cN) rfl (by kernel_rfl) (by kernel_rfl) (by kernel_rfl) (fun _ _ _ h => h) (Or.inl ⟨by rfl, fun W hW => by have k0 : W.cell? ⟨w5.heap.size, 0, none⟩ = some (.slice (some ⟨gN, 0, none⟩) 4 cN) := hW.1.cell 0; go_simp⟩) hS ?_
      try simp only [Act.put, List.setIfInBounds_toArray, List.set_cons_zero, List.set_cons_succ]
      refine wpAnyH_take (i := 10) (oi := ⟨some 35, _, _, _, _, _⟩) (v := .pointer (some ⟨gN, 2, none⟩)) rfl (by kernel_rfl) (by kernel_rfl) (by kernel_rfl) (fun _ _ _ h => h) (Or.inl ⟨by rfl, fun W hW => by go_simp⟩) hS ?_
      try simp only [Act.put, List.setIfInBounds_toArray, List.set_cons_zero, List.set_cons_succ]
      refine wpAnyH_take (i := 11) (oi := ⟨some 36, _, _, _, _, _⟩) (v := .int .i64 a2) rfl (by kernel_rfl) (by kernel_rfl) (by kernel_rfl) (fun _ _ _ h => h) (Or.inl ⟨by rfl, fun W hW => by have k0 : W.cell? ⟨gN, 2, none⟩ = some (.int .i64 a2) := (World.cell?_of_block (w := (w5.alloc (.cells #[.slice (some ⟨gN, 0, none⟩) 4 cN, .slice (some ⟨gT, 0, none⟩) 2 cT] 92))) hW.2).trans m2; go_simp⟩) hS ?_
      try simp only [Act.put, List.setIfInBounds_toArray, List.set_cons_zero, List.set_cons_succ]
      refine wpAnyH_take (i := 12) (oi := ⟨some 37, _, _, _, _, _⟩) (v := .agg #[.int .i64 a0, .int .i64 a1, .int .i64 a2]) rfl (by kernel_rfl) (by kernel_rfl) (by kernel_rfl) (fun _ _ _ h => h) (Or.inl ⟨by rfl, fun W hW => by go_simp⟩) hS ?_
      try simp only [Act.put, List.setIfInBounds_toArray, List.set_cons_zero, List.set_cons_succ]
      refine wpAnyH_take (i := 13) (oi := ⟨some 38, _, _, _, _, _⟩) (v := .pointer (some ⟨w.heap.size, 0, none⟩)) rfl (by kernel_rfl) (by kernel_rfl) (by kernel_rfl) (fun _ _ _ h => h) (Or.inl ⟨by rfl, fun W hW => by go_simp⟩) hS ?_
      try simp only [Act.put, List.setIfInBounds_toArray, List.set_cons_zero, List.set_cons_succ]
      have bb := ((HPF.out.far (p := ⟨w.heap.size, 0, none⟩) (by simp; omega) (.int .i64 a0)).far (p := ⟨w.heap.size, 1, none⟩) (by simp; omega) (.int .i64 a1)).far (p := ⟨w.heap.size, 2, none⟩) (by simp; omega) (.int .i64 a2)
      have hh : ((((w5.alloc (.cells #[.slice (some ⟨gN, 0, none⟩) 4 cN, .slice (some ⟨gT, 0, none⟩) 2 cT] 92)).setCell ⟨w.heap.size, 0, none⟩ (.int .i64 a0)).setCell ⟨w.heap.size, 1, none⟩ (.int .i64 a1)).setCell ⟨w.heap.size, 2, none⟩ (.int .i64 a2)).heap[gN]? = (w5.alloc (.cells #[.slice (some ⟨gN, 0, none⟩) 4 cN, .slice (some ⟨gT, 0, none⟩) 2 cT] 92)).heap[gN]? := ((Below.heap_setCell _ _ _ gN (by show gN ≠ w.heap.size; omega)).trans (Below.heap_setCell _ _ _ gN (by show gN ≠ w.heap.size; omega))).trans (Below.heap_setCell _ _ _ gN (by show gN ≠ w.heap.size; omega))
      refine wpAnyH_ready (rs := [14]) (by kernel_rfl) (by simp) ?_
      refine AllReadyH.cons rfl (fun K hK => ?_) AllReadyH.nil
      go_simp
      refine hK.out _ _ (by exact ⟨bb.drewN 1, hh⟩) (fun hS => ?_)
      clear hK K
      try simp only [Act.put, List.setIfInBounds_toArray, List.set_cons_zero, List.set_cons_succ]
      refine wpAnyH_done (by kernel_rfl) ?_ _
      obtain ⟨W7, hW7⟩ : ∃ W7, World.drew ((((w5.alloc (.cells #[.slice (some ⟨gN, 0, none⟩) 4 cN, .slice (some ⟨gT, 0, none⟩) 2 cT] 92)).setCell ⟨w.heap.size, 0, none⟩ (.int .i64 a0)).setCell ⟨w.heap.size, 1, none⟩ (.int .i64 a1)).setCell ⟨w.heap.size, 2, none⟩ (.int .i64 a2)) = W7 := ⟨_, rfl⟩
      have b2 : Block W7 w.heap.size 36 #[.int .i64 a0, .int .i64 a1, .int .i64 a2, .slice As ns cs, .slice Ai ni ci, .int .i64 p.v, .slice Aa na ca, .bool p.b, .int .i64 ln, .int .i64 e0] := by rw [← hW7]; exact (((HP2.out.set_ 0 (.int .i64 a0)).set_ 1 (.int .i64 a1)).set_ 2 (.int .i64 a2)).drewN 1
      have b4 : Block W7 (w.heap.size + 1) 36 zS.toArray := by rw [← hW7]; exact (((HP4.out.far (p := ⟨w.heap.size, 0, none⟩) (by simp) (.int .i64 a0)).far (p := ⟨w.heap.size, 1, none⟩) (by simp) (.int .i64 a1)).far (p := ⟨w.heap.size, 2, none⟩) (by simp) (.int .i64 a2)).drewN 1
      have bF : Block W7 w5.heap.size 92 #[.slice (some ⟨gN, 0, none⟩) 4 cN, .slice (some ⟨gT, 0, none⟩) 2 cT] := by rw [← hW7]; exact (((HPF.out.far (p := ⟨w.heap.size, 0, none⟩) (by simp; omega) (.int .i64 a0)).far (p := ⟨w.heap.size, 1, none⟩) (by simp; omega) (.int .i64 a1)).far (p := ⟨w.heap.size, 2, none⟩) (by simp; omega) (.int .i64 a2)).drewN 1
      have t7 : TurnsIn (fun x => x = w.heap.size) (w5.alloc (.cells #[.slice (some ⟨gN, 0, none⟩) 4 cN, .slice (some ⟨gT, 0, none⟩) 2 cT] 92)) W7 := by rw [← hW7]; exact ((((TurnsIn.refl (fun x => x = w.heap.size) (w5.alloc (.cells #[.slice (some ⟨gN, 0, none⟩) 4 cN, .slice (some ⟨gT, 0, none⟩) 2 cT] 92))).setCell (p := ⟨w.heap.size, 0, none⟩) (.inl rfl) (.int .i64 a0)).setCell (p := ⟨w.heap.size, 1, none⟩) (.inl rfl) (.int .i64 a1)).setCell (p := ⟨w.heap.size, 2, none⟩) (.inl rfl) (.int .i64 a2)).drewN 1
      rw [hW7]
      have hs6 : (w5.alloc (.cells #[.slice (some ⟨gN, 0, none⟩) 4 cN, .slice (some ⟨gT, 0, none⟩) 2 cT] 92)).heap.size = w5.heap.size + 1 := World.size_alloc _ _
      have kk : ∀ (g i : Nat), g ≠ w.heap.size → g < w5.heap.size → W7.cell? ⟨g, i, none⟩ = (w5.alloc (.cells #[.slice (some ⟨gN, 0, none⟩) 4 cN, .slice (some ⟨gT, 0, none⟩) 2 cT] 92)).cell? ⟨g, i, none⟩ := fun g i h1 h2 => World.cell?_of_block (w := (w5.alloc (.cells #[.slice (some ⟨gN, 0, none⟩) 4 cN, .slice (some ⟨gT, 0, none⟩) 2 cT] 92))) (t7.block g (by omega) h1)
      have k3 := (kk gN 3 (by omega) hgN).trans HM.out.1
      have kT0 : ∀ x, (W7.setCell ⟨w.heap.size, 5, none⟩ x).cell? ⟨gT, 0, none⟩ = some (.slice A4 n4 c4) := fun x => (World.cell?_of_block (w := W7) (Below.heap_setCell W7 _ x gT (by show gT ≠ w.heap.size; omega))).trans ((kk gT 0 (by omega) hgTl).trans HM.out.2.1)
      have kT1 : ∀ x y, ((W7.setCell ⟨w.heap.size, 5, none⟩ x).setCell ⟨w.heap.size, 3, none⟩ y).cell? ⟨gT, 1, none⟩ = some (.slice A5 n5 c5) := fun x y => (World.cell?_of_block (w := W7) ((Below.heap_setCell _ _ y gT (by show gT ≠ w.heap.size; omega)).trans (Below.heap_setCell W7 _ x gT (by show gT ≠ w.heap.size; omega)))).trans ((kk gT 1 (by omega) hgTl).trans HM.out.2.2)
      have F0 : W7.cell? ⟨w5.heap.size, 0, none⟩ = some (.slice (some ⟨gN, 0, none⟩) 4 cN) := bF.cell 0
      have F1 : ∀ x, (W7.setCell ⟨w.heap.size, 5, none⟩ x).cell? ⟨w5.heap.size, 1, none⟩ = some (.slice (some ⟨gT, 0, none⟩) 2 cT) := fun x => (bF.far (p := ⟨w.heap.size, 5, none⟩) (by simp; omega) x).cell 1
      have F2 : ∀ x y, ((W7.setCell ⟨w.heap.size, 5, none⟩ x).setCell ⟨w.heap.size, 3, none⟩ y).cell? ⟨w5.heap.size, 1, none⟩ = some (.slice (some ⟨gT, 0, none⟩) 2 cT) := fun x y => ((bF.far (p := ⟨w.heap.size, 5, none⟩) (by simp; omega) x).far (p := ⟨w.heap.size, 3, none⟩) (by simp; omega) y).cell 1
      have z0 : W7.cell? ⟨w.heap.size, 0, none⟩ = some (.int .i64 a0) := b2.cell 0
      have z1 : W7.cell? ⟨w.heap.size, 1, none⟩ = some (.int .i64 a1) := b2.cell 1
      have z2 : W7.cell? ⟨w.heap.size, 2, none⟩ = some (.int .i64 a2) := b2.cell 2
      have z3 : W7.cell? ⟨w.heap.size, 3, none⟩ = some (.slice As ns cs) := b2.cell 3
      have z4 : W7.cell? ⟨w.heap.size, 4, none⟩ = some (.slice Ai ni ci) := b2.cell 4
      have z5 : W7.cell? ⟨w.heap.size, 5, none⟩ = some (.int .i64 p.v) := b2.cell 5
      have z6 : W7.cell? ⟨w.heap.size, 6, none⟩ = some (.slice Aa na ca) := b2.cell 6
      have z7 : W7.cell? ⟨w.heap.size, 7, none⟩ = some (.bool p.b) := b2.cell 7
      have z8 : W7.cell? ⟨w.heap.size, 8, none⟩ = some (.int .i64 ln) := b2.cell 8
      have z9 : W7.cell? ⟨w.heap.size, 9, none⟩ = some (.int .i64 e0) := b2.cell 9
      have zz := fun i => b2.frozen i
      have b9 := ((((b2.set_ 5 (.int .i64 a3)).set_ 3 (.slice A4 n4 c4)).set_ 4 (.slice A5 n5 c5)).set_ 7 (.bool true))
      have B4 := (((b4.far (p := ⟨w.heap.size, 5, none⟩) (by simp) (.int .i64 a3)).far (p := ⟨w.heap.size, 3, none⟩) (by simp) (.slice A4 n4 c4)).far (p := ⟨w.heap.size, 4, none⟩) (by simp) (.slice A5 n5 c5)).far (p := ⟨w.heap.size, 7, none⟩) (by simp) (.bool true)
      have hb7 : Below w.heap.size w W7 := HBA.out.trans (t7.toBelow HBA.out.size (fun y hy h => by omega))
      have t9 := ((((t7.setCell (p := ⟨w.heap.size, 5, none⟩) (.inl rfl) (.int .i64 a3)).setCell (p := ⟨w.heap.size, 3, none⟩) (.inl rfl) (.slice A4 n4 c4)).setCell (p := ⟨w.heap.size, 4, none⟩) (.inl rfl) (.slice A5 n5 c5)).setCell (p := ⟨w.heap.size, 7, none⟩) (.inl rfl) (.bool true))
      have HT9 := Lib.hid t9
      have HB7 := Lib.hid hb7
      have HB9 := Lib.hid B4
      clear b2 b4 bF t7 kk hs6 hal m0 m1 m2 t9 hb7 b9 x0 x1 x2 x3 x4 x5 x6 x7 x8 x9 xz
      go_upto_region 14 with (fail)
      go_wp2_with (have _t := HB9.out; refine wpList_store_blk (cs := zS.toArray) rfl _ _ _ rfl (ds := [.int .i64 a0, .int .i64 a1, .int .i64 a2, .slice A4 n4 c4, .slice A5 n5 c5, .int .i64 a3, .slice Aa na ca, .bool true, .int .i64 ln, .int .i64 e0]) (by exact HB9.out) rfl rfl rfl (by kernel_rfl) (by intro u hu; simp only [List.mem_cons, List.mem_nil_iff, or_false] at hu; rcases hu with rfl | rfl | rfl | rfl | rfl | rfl | rfl | rfl | rfl | rfl <;> rfl) ?_; clear _t; intro w7 X7 g7)
      have r0 : w7.cell? ⟨w.heap.size + 1, 0, none⟩ = some (.int .i64 a0) := X7.cell 0
      have r1 : w7.cell? ⟨w.heap.size + 1, 1, none⟩ = some (.int .i64 a1) := X7.cell 1
      have r2 : w7.cell? ⟨w.heap.size + 1, 2, none⟩ = some (.int .i64 a2) := X7.cell 2
      have r3 : w7.cell? ⟨w.heap.size + 1, 3, none⟩ = some (.slice A4 n4 c4) := X7.cell 3
      have r4 : w7.cell? ⟨w.heap.size + 1, 4, none⟩ = some (.slice A5 n5 c5) := X7.cell 4
      have r5 : w7.cell? ⟨w.heap.size + 1, 5, none⟩ = some (.int .i64 a3) := X7.cell 5
      have r6 : w7.cell? ⟨w.heap.size + 1, 6, none⟩ = some (.slice Aa na ca) := X7.cell 6
      have r7 : w7.cell? ⟨w.heap.size + 1, 7, none⟩ = some (.bool true) := X7.cell 7
      have r8 : w7.cell? ⟨w.heap.size + 1, 8, none⟩ = some (.int .i64 ln) := X7.cell 8
      have r9 : w7.cell? ⟨w.heap.size + 1, 9, none⟩ = some (.int .i64 e0) := X7.cell 9
      refine bodyPost_ret (v := .agg #[.int .i64 a0, .int .i64 a1, .int .i64 a2, .slice A4 n4 c4, .slice A5 n5 c5, .int .i64 a3, .slice Aa na ca, .bool true, .int .i64 ln, .int .i64 e0]) ?_ rfl ?_
      · simp [results, Try.results35, go_sem, r0, r1, r2, r3, r4, r5, r6, r7, r8, r9]
      · have hb7 := (((((HB7.out.setCell (p := ⟨w.heap.size, 5, none⟩) (Nat.le_refl _) (.int .i64 a3)).setCell (p := ⟨w.heap.size, 3, none⟩) (Nat.le_refl _) (.slice A4 n4 c4)).setCell (p := ⟨w.heap.size, 4, none⟩) (Nat.le_refl _) (.slice A5 n5 c5)).setCell (p := ⟨w.heap.size, 7, none⟩) (Nat.le_refl _) (.bool true))).grown g7 (((((HB7.out.setCell (p := ⟨w.heap.size, 5, none⟩) (Nat.le_refl _) (.int .i64 a3)).setCell (p := ⟨w.heap.size, 3, none⟩) (Nat.le_refl _) (.slice A4 n4 c4)).setCell (p := ⟨w.heap.size, 4, none⟩) (Nat.le_refl _) (.slice A5 n5 c5)).setCell (p := ⟨w.heap.size, 7, none⟩) (Nat.le_refl _) (.bool true))).size (fun b hb => by injection hb with hb; omega)
        refine (HBQ.out _ _).2 ?_
        rw [HE.out]
        have key : ∀ (v : Value) (xs : List Int), Own w5 w3.heap.size 5 .u8 v xs → Own w7 w.heap.size 5 .u8 v xs := fun v xs ho => (((ho.alloc _).out HT9.out (fun x hx he => by have := (ho.lt x hx).1; omega)).out (TurnsIn.ofGrown (S := fun x => x = w.heap.size + 1) g7 (fun b hb => by injection hb with hb; exact hb.symm)) (fun x hx he => by have := (ho.lt x hx).1; omega)).mono (by omega)
        exact ⟨hb7, A4, n4, c4, A5, n5, c5, rfl, key _ _ HO4.out, key _ _ HO5.out⟩
end Go.Proofs.Ytngeemfcmoahoaa.Tv
