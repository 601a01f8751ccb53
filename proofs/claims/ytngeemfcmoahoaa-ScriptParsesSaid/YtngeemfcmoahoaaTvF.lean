/-
  Layer 30, an act among a line's words, as the program takes it: a contract. Conditions: as each theorem names.
-/
import Derived.Test.YtngeemfcmoahoaaTvG
import Derived.Lib.ConvBytes
import Derived.Lib.AtoiErrMem
namespace Go.Proofs.Ytngeemfcmoahoaa.Tv
open Go.Proofs
open Go.ChangeShapes Go.WideShapes Go.ChangeAt Go.RowKit Go.Proofs.Ytngeemfcmoahoaa.Kit Go.Proofs.Ytngeemfcmoahoaa.Tx Go.Proofs.Ytngeemfcmoahoaa.Ty Go.Proofs.Ytngeemfcmoahoaa.Tz

def actD (a : ActV) (v : Value) : Array Value := #[.int .u8 a.k, .int .u8 a.m, .int .i64 a.p, .int .i64 a.n, .int .u64 a.v, v]
def ActP (g : Nat) (ws : List (List Int)) (k : Int) (w : World) (e : Ending) (w' : World) : Prop :=
  TurnsIn (fun b => b = g) w w' ∧ match actG ws k with
  | none => e = thrownF
  | some a => ∃ v, e = .returned (actV a v) ∧ Own w' w.heap.size 5 .u8 v a.d
/-- Between two letters. -/
structure MidA (w wr : World) (g : Nat) (ws : List (List Int)) (k : Int) (j : Nat) (r : ActV) (v : Value) : Prop where
  go : goA ws (lettersP k) 1 ⟨k, 0, 0, 0, 0, []⟩ = goA ws ((lettersP k).drop j) (j + 1) r
  wd : WordsAt wr g ws (j + 1)
  b0 : Block wr w.heap.size 40 (actD zeroA (.slice none 0 0))
  b1 : Block wr (w.heap.size + 1) 40 (actD r v)
  own : Own wr w.heap.size 5 .u8 v r.d
  row : ∀ i, i < (lettersP k).length → wr.cell? ⟨w.heap.size + 2, i, none⟩ = some (.int .u8 ((lettersP k).getD i 0))
  turns : TurnsIn (fun b => b = g) w wr
  size : w.heap.size + 3 ≤ wr.heap.size
  le : j + 1 ≤ ws.length
theorem drop_cons {l : List Int} {j : Nat} {f : Int} (hj : j < l.length) (hf : l.getD j 0 = f) : l.drop j = f :: l.drop (j + 1) := by
  rw [List.drop_eq_getElem_cons hj]
  rw [List.getD_eq_getElem?_getD, List.getElem?_eq_getElem hj] at hf
  have hf' : l[j] = f := hf
  rw [hf']
theorem MidA.none_ {w wr : World} {g : Nat} {ws : List (List Int)} {k : Int} {j : Nat} {r : ActV} {v : Value} (h : MidA w wr g ws k j r v) {f : Int} (hj : j < (lettersP k).length) (hf : (lettersP k).getD j 0 = f) (ht : takeA ws (j + 1) f r = none) : actG ws k = none := by
  unfold actG
  rw [h.go, drop_cons hj hf, goA, ht]
theorem MidA.next {w wr w' : World} {g : Nat} {ws : List (List Int)} {k : Int} {j : Nat} {r r' : ActV} {v v' : Value} (h : MidA w wr g ws k j r v) {f : Int} (hj : j < (lettersP k).length) (hf : (lettersP k).getD j 0 = f) (ht : takeA ws (j + 1) f r = some r')
    (hw : WordsAt w' g ws (j + 2)) (hb : Block w' (w.heap.size + 1) 40 (actD r' v')) (ho : Own w' w.heap.size 5 .u8 v' r'.d) (hT : TurnsIn (fun b => b = g ∨ b = w.heap.size + 1) wr w') (hg : g < w.heap.size) (hlw : j + 2 ≤ ws.length) : MidA w w' g ws k (j + 1) r' v' := by
  refine ⟨?_, hw, h.b0.out hT (by omega), hb, ho, (fun i hi => ?_), h.turns.then_ hT (by omega), Nat.le_trans h.size hT.size, hlw⟩
  · rw [h.go, drop_cons hj hf, goA, ht]
  · rw [World.cell?_of_block (w := wr) (hT.block (w.heap.size + 2) (by have := h.size; omega) (by omega))]
    exact h.row i hi
theorem octets_mem {ws : List (List Int)} (ho : ∀ v ∈ ws, Octets v ∧ v.length ≤ 1000000) (t : Nat) : Octets (ws.getD t []) ∧ (ws.getD t []).length ≤ 1000000 := by
  rw [List.getD_eq_getElem?_getD]
  rcases Nat.lt_or_ge t ws.length with h | h
  · rw [List.getElem?_eq_getElem h]
    exact ho _ (List.getElem_mem h)
  · rw [List.getElem?_eq_none h]
    exact ⟨fun x hx => by simp at hx, by simp⟩
theorem take_short {ws : List (List Int)} {t : Nat} (h : ws.length ≤ t) (f : Int) (a : ActV) : takeA ws t f a = none := by unfold takeA; rw [if_pos h]
theorem took_turns {w w' : World} {g t : Nat} (h : Took w g t w') : TurnsIn (fun b => b = g) w w' := by
  obtain ⟨n, rfl⟩ := h
  exact (((TurnsIn.refl (fun b => b = g) w).setCell (p := ⟨g, 8, none⟩) (.inl rfl) _).drewN 1).drewN n
theorem took_words {w w' : World} {g t : Nat} {ws : List (List Int)} (hw : WordsAt w g ws t) (h : Took w g t w') : WordsAt w' g ws (t + 1) := by
  obtain ⟨n, rfl⟩ := h
  exact hw.taken (t + 1)

set_option maxRecDepth 100000 in
set_option maxHeartbeats 12800000 in
theorem act_any (g : Nat) (ws : List (List Int)) (k : Int) (w : World) (hk : 1 ≤ k ∧ k ≤ 10) (h0 : 0 < ws.length) (hn : ws.length ≤ 1000001) (ho : ∀ v ∈ ws, Octets v ∧ v.length ≤ 1000000) (h : WordsAt w g ws 1) :
    Calls Try.prog 32 #[.pointer (some ⟨g, 0, none⟩), .int .u8 k] w (ActP g ws k w) := by
  have hg := h.lt
  have HO := Lib.hid ho
  obtain ⟨W1, hW1⟩ : ∃ W1, (w.alloc (.cells #[.int .u8 0, .int .u8 0, .int .i64 0, .int .i64 0, .int .u64 0, .slice none 0 0] 40)).alloc (.cells #[.int .u8 k, .int .u8 0, .int .i64 0, .int .i64 0, .int .u64 0, .slice none 0 0] 40) = W1 := ⟨_, rfl⟩
  have a0 : Block W1 w.heap.size 40 (actD zeroA (.slice none 0 0)) := by rw [← hW1]; exact (Block.new w _ _).alloc _
  have a1 : Block W1 (w.heap.size + 1) 40 (actD ⟨k, 0, 0, 0, 0, []⟩ (.slice none 0 0)) := by
    rw [← hW1]
    have := Block.new (w.alloc (.cells #[.int .u8 0, .int .u8 0, .int .i64 0, .int .i64 0, .int .u64 0, .slice none 0 0] 40)) 40 (actD ⟨k, 0, 0, 0, 0, []⟩ (.slice none 0 0))
    rwa [World.size_alloc] at this
  have t1 : TurnsIn (fun b => b = g) w W1 := by rw [← hW1]; exact ((TurnsIn.refl _ w).alloc _).alloc _
  have s1 : W1.heap.size = w.heap.size + 2 := by rw [← hW1]; simp
  have w1 : WordsAt W1 g ws 1 := by rw [← hW1]; exact (Block.alloc (Block.alloc h _) _)
  have HW1 := Lib.hid hW1
  have A0 := Lib.hid a0
  have A1 := Lib.hid a1
  have T1 := Lib.hid t1
  have S1 := Lib.hid s1
  have WD1 := Lib.hid w1
  have GLT := Lib.hid (letters_any k W1)
  obtain ⟨sf, hsf⟩ : ∃ sf, strOfNums (lettersP k) = sf := ⟨_, rfl⟩
  have hnf : sf.size = (lettersP k).length := by rw [← hsf, strOfNums_size]
  have kc := Lib.run_convert_string_bytes (P := Try.prog) W1 9 22 5 sf Try.underlying9 Try.underlying22 Try.underlying5
  have hb3 := Lib.bytesWorld_below W1 5 sf
  have hs3 := Lib.bytesWorld_size W1 5 sf
  have hc3 := Lib.bytesWorld_cell W1 5 sf
  obtain ⟨W3, hW3⟩ : ∃ W3, Lib.bytesWorld W1 5 sf = W3 := ⟨_, rfl⟩
  obtain ⟨cL, hcL⟩ : ∃ cL, grownCap W1 sf.size 0 5 = cL := ⟨_, rfl⟩
  rw [hW3] at kc hb3 hs3 hc3
  rw [hcL, S1.out] at kc
  rw [S1.out] at hs3
  have HROW := Lib.hid (show ∀ i, i < (lettersP k).length → W3.cell? ⟨w.heap.size + 2, i, none⟩ = some (.int .u8 ((lettersP k).getD i 0)) by
    intro i hi
    have h := hc3 i (by rw [hnf]; exact hi)
    rw [S1.out] at h
    have hq : lettersP k = numsOf sf := by rw [← hsf, nums_str (letters_octets _)]
    rw [h, hq]
    unfold numsOf
    rw [List.getD_eq_getElem?_getD, List.getD_eq_getElem?_getD, List.getElem?_map]
    cases sf.data.toList[i]? <;> rfl)
  have MID0 := Lib.hid (show MidA w W3 g ws k 0 ⟨k, 0, 0, 0, 0, []⟩ (.slice none 0 0) from
    ⟨rfl, Block.below WD1.out hb3 (by rw [S1.out]; omega), A0.out.below hb3 (by rw [S1.out]; omega), A1.out.below hb3 (by rw [S1.out]; omega), Own.nil _ _ _ _, HROW.out, T1.out.trans (.ofNew hb3), by omega, h0⟩)
  have HNL := Lib.hid hnf
  rw [hnf] at kc
  obtain ⟨nL, hnL⟩ : ∃ nL, (lettersP k).length = nL := ⟨_, rfl⟩
  have HNN := Lib.hid hnL
  have h3L : nL ≤ 3 := by rw [← hnL]; exact letters_length _
  rw [hnL] at kc
  rw [hsf] at GLT
  clear hb3 hs3 hc3 hW3 hcL hnf hnL hsf hW1 a0 a1 t1 s1 w1 h ho
  go_enter Try.func32, Try.ntmps32
  go_wp2_with fail
  rw [HW1.out]
  refine GLT.out.mono ?_
  rintro e w2 ⟨rfl, hw2⟩
  have hw2' := hw2.symm
  clear hw2
  subst hw2'
  go_wp2_with fail
  clear kc
  go_loopw [14] (fun s wr => ∃ (j : Nat) (r : ActV) (v : Value), j ≤ nL ∧ s = .int .i64 j ∧ MidA w wr g ws k j r v) (fun s _ => nL - (intOf s).toNat)
  case atStart => exact ⟨0, _, _, Nat.zero_le _, rfl, MID0.out⟩
  case round =>
    obtain ⟨j, r, v, hj, rfl, hM⟩ := hrel
    have HM := Lib.hid hM
    have hbk := hM.b1
    have hbel := hM.turns.size
    have hsz := hM.size
    have z0 := hbk.cell 0
    have z1 := hbk.cell 1
    have z2 := hbk.cell 2
    have z3 := hbk.cell 3
    have z4 := hbk.cell 4
    have z5 := hbk.cell 5
    unfold actD at z0 z1 z2 z3 z4 z5
    simp only [List.getElem?_toArray, List.getElem?_cons_zero, List.getElem?_cons_succ] at z0 z1 z2 z3 z4 z5
    obtain ⟨Av, cv, hv, _, _, _⟩ := hM.own.opened
    obtain ⟨n, hn⟩ : ∃ n, r.d.length = n := ⟨_, rfl⟩
    rw [hn] at hv
    subst hv
    clear hn
    by_cases hlt : j < nL
    · have dj : decide ((j : Int) < (nL : Int)) = true := decide_eq_true (by omega)
      have dj2 : decide (j < nL) = true := decide_eq_true hlt
      have cx := hM.row j (by rw [HNN.out]; exact hlt)
      have hmem := letters_mem k ((lettersP k).getD j 0) (by rw [List.getD_eq_getElem?_getD, List.getElem?_eq_getElem (by rw [HNN.out]; exact hlt)]; exact List.getElem_mem _)
      have HJ := Lib.hid (show j < (lettersP k).length by rw [HNN.out]; exact hlt)
      obtain ⟨f, hf⟩ : ∃ f, (lettersP k).getD j 0 = f := ⟨_, rfl⟩
      rw [hf] at cx hmem
      have HFF := Lib.hid hf
      have HLE := Lib.hid hM.le
      have HNO := Lib.hid (fun (f' : Int) (hf' : f = f') ht => HM.out.none_ (f := f') HJ.out (HFF.out.trans hf') ht)
      obtain ⟨rk, rm, rp, rn, rv, rd⟩ := r
      simp only at z0 z1 z2 z3 z4 z5
      have HST := Lib.hid (fun (f' : Int) (hf' : f = f') (r' : ActV) (v' : Value) (w' : World) ht hw hb ho hT hlw => HM.out.next (f := f') (r' := r') (v' := v') (w' := w') HJ.out (HFF.out.trans hf') ht hw hb ho hT hg hlw)
      have hWS := hM.wd
      have HWS := Lib.hid hWS
      have HOC := octets_mem HO.out (j + 1)
      have TEXT := Lib.hid (fun h1 => text_any g (j + 1) ws wr hWS h1 (by omega) HOC.2 HOC.1)
      have NUM := Lib.hid (fun most h1 hm => number_any g (j + 1) ws wr most hWS h1 (by omega) hm HOC.2 HOC.1)
      have NOT := Lib.hid (fun h1 => text_none g (j + 1) ws wr hWS h1)
      have NON := Lib.hid (fun most h1 => number_none g (j + 1) ws wr most hWS h1)
      have HBK := Lib.hid hbk
      have HOW := Lib.hid hM.own
      clear hM hbk hWS HOC hf
      have hlen : ws.length ≤ j + 1 ∨ j + 1 < ws.length := by omega
      have HLN := Lib.hid hlen
      clear hlen
      rcases hmem with rfl | rfl | rfl | rfl | rfl
      · rcases HLN.out with hsh | hln
        · have HN := Lib.hid (HNO.out 77 rfl (take_short hsh _ _))
          have G := Lib.hid (NON.out 255 (.inl hsh))
          clear TEXT NUM NOT NON HBK HOW HST HNO z0 z1 z2 z3 z4 z5
          go_wp2_with fail
          refine G.out.mono ?_
          rintro e w5 ⟨rfl, n5, rfl⟩
          go_wp2_with fail
          refine ⟨rfl, ?_⟩
          unfold ActP
          rw [HN.out]
          exact ⟨HM.out.turns.drewN _, rfl⟩
        · have G := Lib.hid (NUM.out 255 hln (by omega))
          by_cases hq : numB (ws.getD (j + 1) []) 255 = true
          · have HS := Lib.hid (HST.out 77 rfl ⟨rk, valN (ws.getD (j + 1) []), rp, rn, rv, rd⟩)
            have HTK := Lib.hid (show takeA ws (j + 1) 77 ⟨rk, rm, rp, rn, rv, rd⟩ = some ⟨rk, valN (ws.getD (j + 1) []), rp, rn, rv, rd⟩ by unfold takeA; rw [if_neg (by omega)]; simp [hq, -List.getD_eq_getElem?_getD])
            have hv := numB_le hq
            have G2 := Lib.hid (show Calls Try.prog 42 #[.pointer (some ⟨g, 0, none⟩), .int .i64 255] wr fun e w' => e = .returned (.int .i64 (valN (ws.getD (j + 1) []))) ∧ Took wr g (j + 1) w' from G.out.mono (by
              rintro e w' ⟨h1, h2⟩
              rw [if_pos hq] at h1
              exact ⟨h1, h2⟩))
            clear TEXT NUM NOT NON HST HNO G hq z0 z1 z2 z3 z4 z5
            obtain ⟨V, hV⟩ : ∃ V, valN (ws.getD (j + 1) []) = V := ⟨_, rfl⟩
            rw [hV] at HS HTK G2 hv
            clear hV
            have hw8 : IntKind.u8.wrap V = V := by rw [IntKind.wrap_u8]; omega
            go_wp2_with fail
            refine G2.out.mono ?_
            rintro e w5 ⟨rfl, hT5⟩
            have ht5 := took_turns hT5
            have hw5 : WordsAt w5 g ws (j + 2) := took_words HWS.out hT5
            have HOW5 := Lib.hid (HOW.out.out ht5 (fun x hx => by have := HOW.out.lt x hx; omega))
            have bk5 := HBK.out.out ht5 (by omega)
            have g1 := bk5.cell 1
            unfold actD at g1
            simp only [List.getElem?_toArray, List.getElem?_cons_zero, List.getElem?_cons_succ] at g1
            have gf := bk5.frozen 1
            have HBK5 := Lib.hid bk5
            have HT5 := Lib.hid ht5
            have HW5 := Lib.hid hw5
            clear bk5 ht5 hw5 hT5
            go_wp2_with fail
            go_roundw
            case rel =>
              refine ⟨j + 1, _, _, hlt, by go_num, HS.out _ _ HTK.out (Block.far HW5.out (p := ⟨w.heap.size + 1, 1, none⟩) (by simp; omega) _) (HBK5.out.set_ 1 _) (HOW5.out.out ((TurnsIn.refl (fun b => b = w.heap.size + 1) _).setCell (p := ⟨w.heap.size + 1, 1, none⟩) (.inl rfl) _) (fun x hx hx2 => Own.ne_block HOW5.out HBK5.out (by decide) (by rw [hx, hx2]))) (((HT5.out.mono (fun b _ h => .inl h))).setCell (p := ⟨w.heap.size + 1, 1, none⟩) (.inl (.inr rfl)) _) (by omega)⟩
            case measure => simp [intOf] <;> omega
          · have HN := Lib.hid (HNO.out 77 rfl (by unfold takeA; rw [if_neg (by omega)]; simp [hq, -List.getD_eq_getElem?_getD]))
            have G2 := Lib.hid (show Calls Try.prog 42 #[.pointer (some ⟨g, 0, none⟩), .int .i64 255] wr fun e w' => TurnsIn (fun b => b = g) wr w' ∧ e = thrownF from G.out.mono (by
              rintro e w' ⟨h1, h2⟩
              rw [if_neg hq] at h1
              exact ⟨took_turns h2, h1⟩))
            clear TEXT NUM NOT NON HST HNO G hq z0 z1 z2 z3 z4 z5
            unfold thrownF at G2
            go_wp2_with fail
            refine G2.out.mono ?_
            rintro e w5 ⟨ht5, rfl⟩
            have HT5 := Lib.hid ht5
            clear ht5
            go_wp2_with fail
            refine ⟨rfl, ?_⟩
            unfold ActP
            rw [HN.out]
            exact ⟨HM.out.turns.trans HT5.out, rfl⟩
      · rcases HLN.out with hsh | hln
        · have HN := Lib.hid (HNO.out 86 rfl (take_short hsh _ _))
          have G := Lib.hid (NON.out 2147483647 (.inl hsh))
          clear TEXT NUM NOT NON HBK HOW HST HNO z0 z1 z2 z3 z4 z5
          go_wp2_with fail
          refine G.out.mono ?_
          rintro e w5 ⟨rfl, n5, rfl⟩
          go_wp2_with fail
          refine ⟨rfl, ?_⟩
          unfold ActP
          rw [HN.out]
          exact ⟨HM.out.turns.drewN _, rfl⟩
        · have G := Lib.hid (NUM.out 2147483647 hln (by omega))
          by_cases hq : numB (ws.getD (j + 1) []) 2147483647 = true
          · have HS := Lib.hid (HST.out 86 rfl ⟨rk, rm, rp, rn, valN (ws.getD (j + 1) []), rd⟩)
            have HTK := Lib.hid (show takeA ws (j + 1) 86 ⟨rk, rm, rp, rn, rv, rd⟩ = some ⟨rk, rm, rp, rn, valN (ws.getD (j + 1) []), rd⟩ by unfold takeA; rw [if_neg (by omega)]; simp [hq, -List.getD_eq_getElem?_getD])
            have hv := numB_le hq
            have G2 := Lib.hid (show Calls Try.prog 42 #[.pointer (some ⟨g, 0, none⟩), .int .i64 2147483647] wr fun e w' => e = .returned (.int .i64 (valN (ws.getD (j + 1) []))) ∧ Took wr g (j + 1) w' from G.out.mono (by
              rintro e w' ⟨h1, h2⟩
              rw [if_pos hq] at h1
              exact ⟨h1, h2⟩))
            clear TEXT NUM NOT NON HST HNO G hq z0 z1 z2 z3 z4 z5
            obtain ⟨V, hV⟩ : ∃ V, valN (ws.getD (j + 1) []) = V := ⟨_, rfl⟩
            rw [hV] at HS HTK G2 hv
            clear hV
            have hw8 : IntKind.u64.wrap V = V := by rw [IntKind.wrap_u64]; omega
            go_wp2_with fail
            refine G2.out.mono ?_
            rintro e w5 ⟨rfl, hT5⟩
            have ht5 := took_turns hT5
            have hw5 : WordsAt w5 g ws (j + 2) := took_words HWS.out hT5
            have HOW5 := Lib.hid (HOW.out.out ht5 (fun x hx => by have := HOW.out.lt x hx; omega))
            have bk5 := HBK.out.out ht5 (by omega)
            have g4 := bk5.cell 4
            unfold actD at g4
            simp only [List.getElem?_toArray, List.getElem?_cons_zero, List.getElem?_cons_succ] at g4
            have gf := bk5.frozen 4
            have HBK5 := Lib.hid bk5
            have HT5 := Lib.hid ht5
            have HW5 := Lib.hid hw5
            clear bk5 ht5 hw5 hT5
            go_wp2_with fail
            go_roundw
            case rel =>
              refine ⟨j + 1, _, _, hlt, by go_num, HS.out _ _ HTK.out (Block.far HW5.out (p := ⟨w.heap.size + 1, 4, none⟩) (by simp; omega) _) (HBK5.out.set_ 4 _) (HOW5.out.out ((TurnsIn.refl (fun b => b = w.heap.size + 1) _).setCell (p := ⟨w.heap.size + 1, 4, none⟩) (.inl rfl) _) (fun x hx hx2 => Own.ne_block HOW5.out HBK5.out (by decide) (by rw [hx, hx2]))) (((HT5.out.mono (fun b _ h => .inl h))).setCell (p := ⟨w.heap.size + 1, 4, none⟩) (.inl (.inr rfl)) _) (by omega)⟩
            case measure => simp [intOf] <;> omega
          · have HN := Lib.hid (HNO.out 86 rfl (by unfold takeA; rw [if_neg (by omega)]; simp [hq, -List.getD_eq_getElem?_getD]))
            have G2 := Lib.hid (show Calls Try.prog 42 #[.pointer (some ⟨g, 0, none⟩), .int .i64 2147483647] wr fun e w' => TurnsIn (fun b => b = g) wr w' ∧ e = thrownF from G.out.mono (by
              rintro e w' ⟨h1, h2⟩
              rw [if_neg hq] at h1
              exact ⟨took_turns h2, h1⟩))
            clear TEXT NUM NOT NON HST HNO G hq z0 z1 z2 z3 z4 z5
            unfold thrownF at G2
            go_wp2_with fail
            refine G2.out.mono ?_
            rintro e w5 ⟨ht5, rfl⟩
            have HT5 := Lib.hid ht5
            clear ht5
            go_wp2_with fail
            refine ⟨rfl, ?_⟩
            unfold ActP
            rw [HN.out]
            exact ⟨HM.out.turns.trans HT5.out, rfl⟩
      · rcases HLN.out with hsh | hln
        · have HN := Lib.hid (HNO.out 84 rfl (take_short hsh _ _))
          have G := Lib.hid (NOT.out (.inl hsh))
          clear TEXT NUM NOT NON HBK HOW HST HNO z0 z1 z2 z3 z4 z5
          go_wp2_with fail
          refine G.out.mono ?_
          rintro e w5 ⟨rfl, n5, rfl⟩
          go_wp2_with fail
          refine ⟨rfl, ?_⟩
          unfold ActP
          rw [HN.out]
          exact ⟨HM.out.turns.drewN _, rfl⟩
        · have G := Lib.hid (TEXT.out hln)
          by_cases hq : unB (ws.getD (j + 1) []) = true
          · have HS := Lib.hid (HST.out 84 rfl ⟨rk, rm, rp, rn, rv, unL (ws.getD (j + 1) [])⟩)
            have HTK := Lib.hid (show takeA ws (j + 1) 84 ⟨rk, rm, rp, rn, rv, rd⟩ = some ⟨rk, rm, rp, rn, rv, unL (ws.getD (j + 1) [])⟩ by unfold takeA; rw [if_neg (by omega)]; simp [hq, -List.getD_eq_getElem?_getD])
            have hq2 : (if unB (ws.getD (j + 1) []) = true then True else False) := by rw [if_pos hq]; trivial
            have G2 := Lib.hid (show Calls Try.prog 43 #[.pointer (some ⟨g, 0, none⟩)] wr fun e w' => ∃ wt v, Took wr g (j + 1) wt ∧ Below wt.heap.size wt w' ∧ e = .returned v ∧ Own w' wt.heap.size 5 .u8 v (unL (ws.getD (j + 1) [])) from G.out.mono (by
              rintro e w' ⟨wt, h1, h2, h3⟩
              rw [if_pos hq] at h3
              obtain ⟨v, h4, h5⟩ := h3
              exact ⟨wt, v, h1, h2, h4, h5⟩))
            clear TEXT NUM NOT NON HST HNO G hq hq2 z0 z1 z2 z3 z4 z5
            obtain ⟨U, hU⟩ : ∃ U, unL (ws.getD (j + 1) []) = U := ⟨_, rfl⟩
            rw [hU] at HS HTK G2
            clear hU
            go_wp2_with fail
            refine G2.out.mono ?_
            rintro e w5 ⟨wt, v5, hT5, hB5, rfl, ho5⟩
            have ht5 := (took_turns hT5).trans (.ofNew hB5)
            have hw5 : WordsAt w5 g ws (j + 2) := Block.below (took_words HWS.out hT5) hB5 (took_words HWS.out hT5).lt
            have HOW5 := Lib.hid (ho5.mono (B' := w.heap.size) (by have := (took_turns hT5).size; omega))
            have hne5 := ho5.lt
            have hwt5 := (took_turns hT5).size
            obtain ⟨A5, c5, rfl, _, _, _⟩ := ho5.opened
            have bk5 := HBK.out.out ht5 (by omega)
            have g5 := bk5.cell 5
            unfold actD at g5
            simp only [List.getElem?_toArray, List.getElem?_cons_zero, List.getElem?_cons_succ] at g5
            have gf := bk5.frozen 5
            have HBK5 := Lib.hid bk5
            have HT5 := Lib.hid ht5
            have HW5 := Lib.hid hw5
            clear bk5 ht5 hw5 hT5 hB5 ho5
            go_wp2_with fail
            go_roundw
            case rel =>
              refine ⟨j + 1, _, _, hlt, by go_num, HS.out _ _ HTK.out (Block.far HW5.out (p := ⟨w.heap.size + 1, 5, none⟩) (by simp; omega) _) (HBK5.out.set_ 5 _) (HOW5.out.out ((TurnsIn.refl (fun b => b = w.heap.size + 1) _).setCell (p := ⟨w.heap.size + 1, 5, none⟩) (.inl rfl) _) (fun x hx => by have := hne5 x hx; omega)) (((HT5.out.mono (fun b _ h => .inl h))).setCell (p := ⟨w.heap.size + 1, 5, none⟩) (.inl (.inr rfl)) _) (by omega)⟩
            case measure => simp [intOf] <;> omega
          · have HN := Lib.hid (HNO.out 84 rfl (by unfold takeA; rw [if_neg (by omega)]; simp [hq, -List.getD_eq_getElem?_getD]))
            have G2 := Lib.hid (show Calls Try.prog 43 #[.pointer (some ⟨g, 0, none⟩)] wr fun e w' => TurnsIn (fun b => b = g) wr w' ∧ e = thrownF from G.out.mono (by
              rintro e w' ⟨wt, h1, h2, h3⟩
              rw [if_neg hq] at h3
              exact ⟨(took_turns h1).trans (.ofNew h2), h3⟩))
            clear TEXT NUM NOT NON HST HNO G hq z0 z1 z2 z3 z4 z5
            unfold thrownF at G2
            go_wp2_with fail
            refine G2.out.mono ?_
            rintro e w5 ⟨ht5, rfl⟩
            have HT5 := Lib.hid ht5
            clear ht5
            go_wp2_with fail
            refine ⟨rfl, ?_⟩
            unfold ActP
            rw [HN.out]
            exact ⟨HM.out.turns.trans HT5.out, rfl⟩
      · rcases HLN.out with hsh | hln
        · have HN := Lib.hid (HNO.out 80 rfl (take_short hsh _ _))
          have G := Lib.hid (NON.out 2147483647 (.inl hsh))
          clear TEXT NUM NOT NON HBK HOW HST HNO z0 z1 z2 z3 z4 z5
          go_wp2_with fail
          refine G.out.mono ?_
          rintro e w5 ⟨rfl, n5, rfl⟩
          go_wp2_with fail
          refine ⟨rfl, ?_⟩
          unfold ActP
          rw [HN.out]
          exact ⟨HM.out.turns.drewN _, rfl⟩
        · have G := Lib.hid (NUM.out 2147483647 hln (by omega))
          by_cases hq : numB (ws.getD (j + 1) []) 2147483647 = true
          · have HS := Lib.hid (HST.out 80 rfl ⟨rk, rm, valN (ws.getD (j + 1) []), rn, rv, rd⟩)
            have HTK := Lib.hid (show takeA ws (j + 1) 80 ⟨rk, rm, rp, rn, rv, rd⟩ = some ⟨rk, rm, valN (ws.getD (j + 1) []), rn, rv, rd⟩ by unfold takeA; rw [if_neg (by omega)]; simp [hq, -List.getD_eq_getElem?_getD])
            have hv := numB_le hq
            have G2 := Lib.hid (show Calls Try.prog 42 #[.pointer (some ⟨g, 0, none⟩), .int .i64 2147483647] wr fun e w' => e = .returned (.int .i64 (valN (ws.getD (j + 1) []))) ∧ Took wr g (j + 1) w' from G.out.mono (by
              rintro e w' ⟨h1, h2⟩
              rw [if_pos hq] at h1
              exact ⟨h1, h2⟩))
            clear TEXT NUM NOT NON HST HNO G hq z0 z1 z2 z3 z4 z5
            obtain ⟨V, hV⟩ : ∃ V, valN (ws.getD (j + 1) []) = V := ⟨_, rfl⟩
            rw [hV] at HS HTK G2 hv
            clear hV
            go_wp2_with fail
            refine G2.out.mono ?_
            rintro e w5 ⟨rfl, hT5⟩
            have ht5 := took_turns hT5
            have hw5 : WordsAt w5 g ws (j + 2) := took_words HWS.out hT5
            have HOW5 := Lib.hid (HOW.out.out ht5 (fun x hx => by have := HOW.out.lt x hx; omega))
            have bk5 := HBK.out.out ht5 (by omega)
            have g2 := bk5.cell 2
            unfold actD at g2
            simp only [List.getElem?_toArray, List.getElem?_cons_zero, List.getElem?_cons_succ] at g2
            have gf := bk5.frozen 2
            have HBK5 := Lib.hid bk5
            have HT5 := Lib.hid ht5
            have HW5 := Lib.hid hw5
            clear bk5 ht5 hw5 hT5
            go_wp2_with fail
            go_roundw
            case rel =>
              refine ⟨j + 1, _, _, hlt, by go_num, HS.out _ _ HTK.out (Block.far HW5.out (p := ⟨w.heap.size + 1, 2, none⟩) (by simp; omega) _) (HBK5.out.set_ 2 _) (HOW5.out.out ((TurnsIn.refl (fun b => b = w.heap.size + 1) _).setCell (p := ⟨w.heap.size + 1, 2, none⟩) (.inl rfl) _) (fun x hx hx2 => Own.ne_block HOW5.out HBK5.out (by decide) (by rw [hx, hx2]))) (((HT5.out.mono (fun b _ h => .inl h))).setCell (p := ⟨w.heap.size + 1, 2, none⟩) (.inl (.inr rfl)) _) (by omega)⟩
            case measure => simp [intOf] <;> omega
          · have HN := Lib.hid (HNO.out 80 rfl (by unfold takeA; rw [if_neg (by omega)]; simp [hq, -List.getD_eq_getElem?_getD]))
            have G2 := Lib.hid (show Calls Try.prog 42 #[.pointer (some ⟨g, 0, none⟩), .int .i64 2147483647] wr fun e w' => TurnsIn (fun b => b = g) wr w' ∧ e = thrownF from G.out.mono (by
              rintro e w' ⟨h1, h2⟩
              rw [if_neg hq] at h1
              exact ⟨took_turns h2, h1⟩))
            clear TEXT NUM NOT NON HST HNO G hq z0 z1 z2 z3 z4 z5
            unfold thrownF at G2
            go_wp2_with fail
            refine G2.out.mono ?_
            rintro e w5 ⟨ht5, rfl⟩
            have HT5 := Lib.hid ht5
            clear ht5
            go_wp2_with fail
            refine ⟨rfl, ?_⟩
            unfold ActP
            rw [HN.out]
            exact ⟨HM.out.turns.trans HT5.out, rfl⟩
      · rcases HLN.out with hsh | hln
        · have HN := Lib.hid (HNO.out 78 rfl (take_short hsh _ _))
          have G := Lib.hid (NON.out 2147483647 (.inl hsh))
          clear TEXT NUM NOT NON HBK HOW HST HNO z0 z1 z2 z3 z4 z5
          go_wp2_with fail
          refine G.out.mono ?_
          rintro e w5 ⟨rfl, n5, rfl⟩
          go_wp2_with fail
          refine ⟨rfl, ?_⟩
          unfold ActP
          rw [HN.out]
          exact ⟨HM.out.turns.drewN _, rfl⟩
        · have G := Lib.hid (NUM.out 2147483647 hln (by omega))
          by_cases hq : numB (ws.getD (j + 1) []) 2147483647 = true
          · have HS := Lib.hid (HST.out 78 rfl ⟨rk, rm, rp, valN (ws.getD (j + 1) []), rv, rd⟩)
            have HTK := Lib.hid (show takeA ws (j + 1) 78 ⟨rk, rm, rp, rn, rv, rd⟩ = some ⟨rk, rm, rp, valN (ws.getD (j + 1) []), rv, rd⟩ by unfold takeA; rw [if_neg (by omega)]; simp [hq, -List.getD_eq_getElem?_getD])
            have hv := numB_le hq
            have G2 := Lib.hid (show Calls Try.prog 42 #[.pointer (some ⟨g, 0, none⟩), .int .i64 2147483647] wr fun e w' => e = .returned (.int .i64 (valN (ws.getD (j + 1) []))) ∧ Took wr g (j + 1) w' from G.out.mono (by
              rintro e w' ⟨h1, h2⟩
              rw [if_pos hq] at h1
              exact ⟨h1, h2⟩))
            clear TEXT NUM NOT NON HST HNO G hq z0 z1 z2 z3 z4 z5
            obtain ⟨V, hV⟩ : ∃ V, valN (ws.getD (j + 1) []) = V := ⟨_, rfl⟩
            rw [hV] at HS HTK G2 hv
            clear hV
            go_wp2_with fail
            refine G2.out.mono ?_
            rintro e w5 ⟨rfl, hT5⟩
            have ht5 := took_turns hT5
            have hw5 : WordsAt w5 g ws (j + 2) := took_words HWS.out hT5
            have HOW5 := Lib.hid (HOW.out.out ht5 (fun x hx => by have := HOW.out.lt x hx; omega))
            have bk5 := HBK.out.out ht5 (by omega)
            have g3 := bk5.cell 3
            unfold actD at g3
            simp only [List.getElem?_toArray, List.getElem?_cons_zero, List.getElem?_cons_succ] at g3
            have gf := bk5.frozen 3
            have HBK5 := Lib.hid bk5
            have HT5 := Lib.hid ht5
            have HW5 := Lib.hid hw5
            clear bk5 ht5 hw5 hT5
            go_wp2_with fail
            go_roundw
            case rel =>
              refine ⟨j + 1, _, _, hlt, by go_num, HS.out _ _ HTK.out (Block.far HW5.out (p := ⟨w.heap.size + 1, 3, none⟩) (by simp; omega) _) (HBK5.out.set_ 3 _) (HOW5.out.out ((TurnsIn.refl (fun b => b = w.heap.size + 1) _).setCell (p := ⟨w.heap.size + 1, 3, none⟩) (.inl rfl) _) (fun x hx hx2 => Own.ne_block HOW5.out HBK5.out (by decide) (by rw [hx, hx2]))) (((HT5.out.mono (fun b _ h => .inl h))).setCell (p := ⟨w.heap.size + 1, 3, none⟩) (.inl (.inr rfl)) _) (by omega)⟩
            case measure => simp [intOf] <;> omega
          · have HN := Lib.hid (HNO.out 78 rfl (by unfold takeA; rw [if_neg (by omega)]; simp [hq, -List.getD_eq_getElem?_getD]))
            have G2 := Lib.hid (show Calls Try.prog 42 #[.pointer (some ⟨g, 0, none⟩), .int .i64 2147483647] wr fun e w' => TurnsIn (fun b => b = g) wr w' ∧ e = thrownF from G.out.mono (by
              rintro e w' ⟨h1, h2⟩
              rw [if_neg hq] at h1
              exact ⟨took_turns h2, h1⟩))
            clear TEXT NUM NOT NON HST HNO G hq z0 z1 z2 z3 z4 z5
            unfold thrownF at G2
            go_wp2_with fail
            refine G2.out.mono ?_
            rintro e w5 ⟨ht5, rfl⟩
            have HT5 := Lib.hid ht5
            clear ht5
            go_wp2_with fail
            refine ⟨rfl, ?_⟩
            unfold ActP
            rw [HN.out]
            exact ⟨HM.out.turns.trans HT5.out, rfl⟩
    · obtain rfl : j = nL := by omega
      have dj : decide ((j : Int) < (j : Int)) = false := decide_eq_false (by omega)
      have dj2 : decide (j < j) = false := decide_eq_false (by omega)
      have HGO := Lib.hid (show goA ws (lettersP k) 1 ⟨k, 0, 0, 0, 0, []⟩ = some r by
        rw [hM.go, List.drop_of_length_le (by rw [HNN.out]; exact Nat.le_refl _)]; rfl)
      have hwd := hM.wd
      have HT := Lib.hid hM.turns
      have HOW := Lib.hid hM.own
      have HB0 := Lib.hid hM.b0
      have HBK := Lib.hid hbk
      by_cases hen : ws.length ≤ j + 1
      · have HA := Lib.hid (show actG ws k = some r by unfold actG; rw [HGO.out]; simp only []; rw [if_pos (by rw [HNN.out]; exact hen)])
        have G := Lib.hid (end_ok g (j + 1) ws wr hwd hen)
        obtain ⟨rk, rm, rp, rn, rv, rd⟩ := r
        simp only at z0 z1 z2 z3 z4 z5
        have z00 := fun n => (HB0.out.drewN n).cell 0
        have zf := fun n i => (HB0.out.drewN n).frozen i
        have y0 := fun n => (HB0.out.drewN n).cell 0
        have y1 := fun n => (HB0.out.drewN n).cell 1
        have y2 := fun n => (HB0.out.drewN n).cell 2
        have y3 := fun n => (HB0.out.drewN n).cell 3
        have y4 := fun n => (HB0.out.drewN n).cell 4
        have y5 := fun n => (HB0.out.drewN n).cell 5
        unfold actD zeroA at y0 y1 y2 y3 y4 y5
        simp only [List.getElem?_toArray, List.getElem?_cons_zero, List.getElem?_cons_succ] at y0 y1 y2 y3 y4 y5
        clear hM hbk hwd hen z00
        go_wp2_with fail
        refine G.out.mono ?_
        rintro e w5 ⟨rfl, n5, rfl⟩
        go_wp2_with fail
        have t5 : TurnsIn (fun b => b = w.heap.size) wr ((((((((wr.drewN n5).setCell ⟨w.heap.size, 0, none⟩ (.int .u8 rk)).setCell ⟨w.heap.size, 1, none⟩ (.int .u8 rm)).setCell ⟨w.heap.size, 2, none⟩ (.int .i64 rp)).setCell ⟨w.heap.size, 3, none⟩ (.int .i64 rn)).setCell ⟨w.heap.size, 4, none⟩ (.int .u64 rv)).setCell ⟨w.heap.size, 5, none⟩ (.slice Av n cv))) :=
          ((((((((TurnsIn.refl (fun b => b = w.heap.size) wr).drewN n5).setCell (p := ⟨w.heap.size, 0, none⟩) (.inl rfl) _).setCell (p := ⟨w.heap.size, 1, none⟩) (.inl rfl) _).setCell (p := ⟨w.heap.size, 2, none⟩) (.inl rfl) _).setCell (p := ⟨w.heap.size, 3, none⟩) (.inl rfl) _).setCell (p := ⟨w.heap.size, 4, none⟩) (.inl rfl) _).setCell (p := ⟨w.heap.size, 5, none⟩) (.inl rfl) _)
        have b5 := ((((((Block.drewN HB0.out n5).set_ 0 (.int .u8 rk)).set_ 1 (.int .u8 rm)).set_ 2 (.int .i64 rp)).set_ 3 (.int .i64 rn)).set_ 4 (.int .u64 rv)).set_ 5 (.slice Av n cv)
        have b6 : Block (((((((wr.drewN n5).setCell ⟨w.heap.size, 0, none⟩ (.int .u8 rk)).setCell ⟨w.heap.size, 1, none⟩ (.int .u8 rm)).setCell ⟨w.heap.size, 2, none⟩ (.int .i64 rp)).setCell ⟨w.heap.size, 3, none⟩ (.int .i64 rn)).setCell ⟨w.heap.size, 4, none⟩ (.int .u64 rv)).setCell ⟨w.heap.size, 5, none⟩ (.slice Av n cv)) w.heap.size 40 #[.int .u8 rk, .int .u8 rm, .int .i64 rp, .int .i64 rn, .int .u64 rv, .slice Av n cv] := b5
        clear b5 y0 y1 y2 y3 y4 y5 zf z0 z1 z2 z3 z4 z5
        generalize ((((((wr.drewN n5).setCell ⟨w.heap.size, 0, none⟩ (.int .u8 rk)).setCell ⟨w.heap.size, 1, none⟩ (.int .u8 rm)).setCell ⟨w.heap.size, 2, none⟩ (.int .i64 rp)).setCell ⟨w.heap.size, 3, none⟩ (.int .i64 rn)).setCell ⟨w.heap.size, 4, none⟩ (.int .u64 rv)).setCell ⟨w.heap.size, 5, none⟩ (.slice Av n cv) = w6 at *
        have r0 : w6.cell? ⟨w.heap.size, 0, none⟩ = some (.int .u8 rk) := b6.cell 0
        have r1 : w6.cell? ⟨w.heap.size, 1, none⟩ = some (.int .u8 rm) := b6.cell 1
        have r2 : w6.cell? ⟨w.heap.size, 2, none⟩ = some (.int .i64 rp) := b6.cell 2
        have r3 : w6.cell? ⟨w.heap.size, 3, none⟩ = some (.int .i64 rn) := b6.cell 3
        have r4 : w6.cell? ⟨w.heap.size, 4, none⟩ = some (.int .u64 rv) := b6.cell 4
        have r5 : w6.cell? ⟨w.heap.size, 5, none⟩ = some (.slice Av n cv) := b6.cell 5
        refine bodyPost_ret (v := .agg #[.int .u8 rk, .int .u8 rm, .int .i64 rp, .int .i64 rn, .int .u64 rv, .slice Av n cv]) ?_ rfl ?_
        · simp [results, Try.results32, go_sem, r0, r1, r2, r3, r4, r5]
        · unfold ActP
          rw [HA.out]
          exact ⟨HT.out.then_ t5 (by omega), _, rfl, HOW.out.out t5 (fun x hx hx2 => Own.ne_block HOW.out HB0.out (by decide) (by rw [hx, hx2]))⟩
      · have HN := Lib.hid (show actG ws k = none by unfold actG; rw [HGO.out]; simp only []; rw [if_neg (by rw [HNN.out]; exact hen)])
        have G := Lib.hid (end_no g (j + 1) ws wr hwd (by omega))
        clear hM hbk hwd hen z0 z1 z2 z3 z4 z5
        go_wp2_with fail
        refine G.out.mono ?_
        rintro e w5 ⟨rfl, n5, rfl⟩
        go_wp2_with fail
        refine ⟨rfl, ?_⟩
        unfold ActP
        rw [HN.out]
        exact ⟨HT.out.drewN _, rfl⟩
end Go.Proofs.Ytngeemfcmoahoaa.Tv
