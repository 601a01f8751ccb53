/-
  Layer 30, the document's Act: a contract. Conditions: as each theorem names.
-/
import Derived.Test.YtngeemfcmoahoaaTyD
namespace Go.Proofs.Ytngeemfcmoahoaa.Ty
open Go.ChangeShapes Go.WideShapes Go.ChangeAt Go.RowKit Go.Proofs.Ytngeemfcmoahoaa.Kit Go.Proofs.Ytngeemfcmoahoaa.Tx

/-- An act. -/
structure ActV where
  k : Int
  m : Int
  p : Int
  n : Int
  v : Int
  d : List Int
def actOf (k : Int) (ns : List Int) (ts : List (List Int)) : ActV :=
  if k = 1 then ⟨1, ns.getD 0 0, 0, 0, ns.getD 1 0, ts.getD 0 []⟩
  else if k = 2 then ⟨2, 0, ns.getD 0 0, ns.getD 1 0, 0, []⟩
  else if k = 6 then ⟨6, 0, 0, ns.getD 0 0, 0, []⟩
  else if k = 7 then ⟨7, 0, 0, 0, 0, ts.getD 0 []⟩
  else if k = 8 then ⟨8, ns.getD 2 0, ns.getD 0 0, ns.getD 1 0, 0, []⟩
  else ⟨k, 0, 0, 0, 0, []⟩
/-- What a line tells: an act, or the error's number. -/
def actL (cs : List Int) : Except Int ActV :=
  match formL ((wordsL cs).getD 0 []) with
  | none => .error 21
  | some (f, k) => match fieldsL (wordsL cs) f with
    | none => .error 3
    | some (ns, ts) => .ok (actOf k ns ts)
def actV (a : ActV) (v : Value) : Value := .agg #[.int .u8 a.k, .int .u8 a.m, .int .i64 a.p, .int .i64 a.n, .int .u64 a.v, v]
def zeroA : ActV := ⟨0, 0, 0, 0, 0, []⟩
theorem own_cells {w : World} {B n c : Nat} {A : Option Addr} {xs : List Int} (h : Own w B 3 .i64 (.slice A n c) xs) (h0 : 0 < xs.length) : ∃ g, A = some ⟨g, 0, none⟩ ∧ n = xs.length ∧ g < w.heap.size ∧ ∀ i, i < xs.length → w.cell? ⟨g, i, none⟩ = some (.int .i64 (xs.getD i 0)) := by
  obtain ⟨g, cap, hv, hB, hg, _, _⟩ := h.form h0
  injection hv with e1 e2 e3
  subst e1 e2 e3
  refine ⟨g, rfl, rfl, hg, fun i hi => ?_⟩
  have := h.cellAt rfl (i := i) hi
  rw [List.getD_eq_getElem?_getD]
  exact this
theorem row_cells {w : World} {B n c : Nat} {A : Option Addr} {us : List Value} (h : OwnV w B 22 (.slice A n c) us) (h0 : 0 < us.length) : ∃ g, A = some ⟨g, 0, none⟩ ∧ n = us.length ∧ g < w.heap.size ∧ w.cell? ⟨g, 0, none⟩ = some us[0] := by
  obtain ⟨A2, c2, hv, _, _⟩ := h.opened
  injection hv with e1 e2 e3
  subst e1 e2 e3
  obtain ⟨g, hA, hg, hc⟩ := h.cellAt (i := 0) h0
  exact ⟨g, hA, rfl, hg, hc⟩
theorem below6 {B g : Nat} {w w3 : World} (h : Below B w w3) (hg : B ≤ g) (u0 u1 u2 u3 u4 u5 : Value) : Below B w ((((((w3.setCell ⟨g, 0, none⟩ u0).setCell ⟨g, 1, none⟩ u1).setCell ⟨g, 2, none⟩ u2).setCell ⟨g, 3, none⟩ u3).setCell ⟨g, 4, none⟩ u4).setCell ⟨g, 5, none⟩ u5) :=
  (((((h.setCell (p := ⟨g, 0, none⟩) hg u0).setCell (p := ⟨g, 1, none⟩) hg u1).setCell (p := ⟨g, 2, none⟩) hg u2).setCell (p := ⟨g, 3, none⟩) hg u3).setCell (p := ⟨g, 4, none⟩) hg u4).setCell (p := ⟨g, 5, none⟩) hg u5
theorem turns6 {S : Nat → Prop} {g : Nat} {w w3 : World} (h : TurnsIn S w w3) (hg : S g) (u0 u1 u2 u3 u4 u5 : Value) : TurnsIn S w ((((((w3.setCell ⟨g, 0, none⟩ u0).setCell ⟨g, 1, none⟩ u1).setCell ⟨g, 2, none⟩ u2).setCell ⟨g, 3, none⟩ u3).setCell ⟨g, 4, none⟩ u4).setCell ⟨g, 5, none⟩ u5) :=
  (((((h.setCell (p := ⟨g, 0, none⟩) (.inl hg) u0).setCell (p := ⟨g, 1, none⟩) (.inl hg) u1).setCell (p := ⟨g, 2, none⟩) (.inl hg) u2).setCell (p := ⟨g, 3, none⟩) (.inl hg) u3).setCell (p := ⟨g, 4, none⟩) (.inl hg) u4).setCell (p := ⟨g, 5, none⟩) (.inl hg) u5
def ActTo (s : ByteArray) (w : World) (e : Ending) (w' : World) : Prop :=
  Below w.heap.size w w' ∧ match actL (numsOf s) with
  | .error why => e = .returned (.tuple #[actV zeroA (.slice none 0 0), .int .i64 why])
  | .ok a => ∃ vD, e = .returned (.tuple #[actV a vD, .int .i64 0]) ∧ Own w' w.heap.size 5 .u8 vD a.d
theorem numB_le {cs : List Int} {most : Int} (h : numB cs most = true) : 0 ≤ valN cs ∧ valN cs ≤ most := by
  unfold numB at h
  simp only [Bool.and_eq_true] at h
  exact ⟨(valN_bd h.1.2).1, of_decide_eq_true h.2⟩
theorem fields_bnt {ws : List (List Int)} {ns : List Int} {ts : List (List Int)} (h : fieldsL ws [98, 110, 116] = some (ns, ts)) : ∃ (a0 : Int) (a1 : Int) (t2 : List Int), ns = [a0, a1] ∧ ts = [t2] ∧ 0 ≤ a0 ∧ a0 ≤ 255 ∧ 0 ≤ a1 ∧ a1 ≤ 2147483647 := by
  unfold fieldsL at h
  split at h
  · next hl =>
    match ws, hl with
    | [w0, w1, w2, w3], _ =>
      cases c0 : numB w1 255 with
      | false => simp [stepF, c0] at h
      | true =>
        cases c1 : numB w2 2147483647 with
        | false => simp [stepF, c0, c1] at h
        | true =>
          cases c2 : unB w3 with
          | false => simp [stepF, c0, c1, c2] at h
          | true =>
            simp [stepF, c0, c1, c2] at h
            obtain ⟨rfl, rfl⟩ := h
            have b0 := numB_le c0
            have b1 := numB_le c1
            exact ⟨valN w1, valN w2, unL w3, rfl, rfl, b0.1, b0.2, b1.1, b1.2⟩
  · cases h
theorem fields_nn {ws : List (List Int)} {ns : List Int} {ts : List (List Int)} (h : fieldsL ws [110, 110] = some (ns, ts)) : ∃ (a0 : Int) (a1 : Int), ns = [a0, a1] ∧ ts = [] ∧ 0 ≤ a0 ∧ a0 ≤ 2147483647 ∧ 0 ≤ a1 ∧ a1 ≤ 2147483647 := by
  unfold fieldsL at h
  split at h
  · next hl =>
    match ws, hl with
    | [w0, w1, w2], _ =>
      cases c0 : numB w1 2147483647 with
      | false => simp [stepF, c0] at h
      | true =>
        cases c1 : numB w2 2147483647 with
        | false => simp [stepF, c0, c1] at h
        | true =>
          simp [stepF, c0, c1] at h
          obtain ⟨rfl, rfl⟩ := h
          have b0 := numB_le c0
          have b1 := numB_le c1
          exact ⟨valN w1, valN w2, rfl, rfl, b0.1, b0.2, b1.1, b1.2⟩
  · cases h
theorem fields_no {ws : List (List Int)} {ns : List Int} {ts : List (List Int)} (h : fieldsL ws [] = some (ns, ts)) : ns = [] ∧ ts = [] := by
  unfold fieldsL at h
  split at h
  · next hl =>
    match ws, hl with
    | [w0], _ =>
      simp [stepF] at h
      obtain ⟨rfl, rfl⟩ := h
      exact ⟨rfl, rfl⟩
  · cases h
theorem fields_n {ws : List (List Int)} {ns : List Int} {ts : List (List Int)} (h : fieldsL ws [110] = some (ns, ts)) : ∃ (a0 : Int), ns = [a0] ∧ ts = [] ∧ 0 ≤ a0 ∧ a0 ≤ 2147483647 := by
  unfold fieldsL at h
  split at h
  · next hl =>
    match ws, hl with
    | [w0, w1], _ =>
      cases c0 : numB w1 2147483647 with
      | false => simp [stepF, c0] at h
      | true =>
        simp [stepF, c0] at h
        obtain ⟨rfl, rfl⟩ := h
        have b0 := numB_le c0
        exact ⟨valN w1, rfl, rfl, b0.1, b0.2⟩
  · cases h
theorem fields_t {ws : List (List Int)} {ns : List Int} {ts : List (List Int)} (h : fieldsL ws [116] = some (ns, ts)) : ∃ (t0 : List Int), ns = [] ∧ ts = [t0] := by
  unfold fieldsL at h
  split at h
  · next hl =>
    match ws, hl with
    | [w0, w1], _ =>
      cases c0 : unB w1 with
      | false => simp [stepF, c0] at h
      | true =>
        simp [stepF, c0] at h
        obtain ⟨rfl, rfl⟩ := h
        exact ⟨unL w1, rfl, rfl⟩
  · cases h
theorem fields_nnb {ws : List (List Int)} {ns : List Int} {ts : List (List Int)} (h : fieldsL ws [110, 110, 98] = some (ns, ts)) : ∃ (a0 : Int) (a1 : Int) (a2 : Int), ns = [a0, a1, a2] ∧ ts = [] ∧ 0 ≤ a0 ∧ a0 ≤ 2147483647 ∧ 0 ≤ a1 ∧ a1 ≤ 2147483647 ∧ 0 ≤ a2 ∧ a2 ≤ 255 := by
  unfold fieldsL at h
  split at h
  · next hl =>
    match ws, hl with
    | [w0, w1, w2, w3], _ =>
      cases c0 : numB w1 2147483647 with
      | false => simp [stepF, c0] at h
      | true =>
        cases c1 : numB w2 2147483647 with
        | false => simp [stepF, c0, c1] at h
        | true =>
          cases c2 : numB w3 255 with
          | false => simp [stepF, c0, c1, c2] at h
          | true =>
            simp [stepF, c0, c1, c2] at h
            obtain ⟨rfl, rfl⟩ := h
            have b0 := numB_le c0
            have b1 := numB_le c1
            have b2 := numB_le c2
            exact ⟨valN w1, valN w2, valN w3, rfl, rfl, b0.1, b0.2, b1.1, b1.2, b2.1, b2.2⟩
  · cases h

set_option maxRecDepth 100000 in
set_option maxHeartbeats 12800000 in
theorem ract_any (s : ByteArray) (w : World) (hs : s.size ≤ 100000) : Calls Try.prog 36 #[.string s] w (ActTo s w) := by
  have B0 := (Below.refl w.heap.size w).alloc (Nat.le_refl _) (.cells #[.int .u8 0, .int .u8 0, .int .i64 0, .int .i64 0, .int .u64 0, .slice none 0 0] 40)
  have B1 := B0.alloc B0.size (.cells #[.int .u8 0, .int .u8 0, .int .i64 0, .int .i64 0, .int .u64 0, .slice none 0 0] 40)
  have k2 := (Block.new w 40 #[.int .u8 0, .int .u8 0, .int .i64 0, .int .i64 0, .int .u64 0, .slice none 0 0]).alloc (.cells #[.int .u8 0, .int .u8 0, .int .i64 0, .int .i64 0, .int .u64 0, .slice none 0 0] 40)
  have k4 := Block.new (w.alloc (.cells #[.int .u8 0, .int .u8 0, .int .i64 0, .int .i64 0, .int .u64 0, .slice none 0 0] 40)) 40 #[.int .u8 0, .int .u8 0, .int .i64 0, .int .i64 0, .int .u64 0, .slice none 0 0]
  rw [show (w.alloc (.cells #[.int .u8 0, .int .u8 0, .int .i64 0, .int .i64 0, .int .u64 0, .slice none 0 0] 40)).heap.size = w.heap.size + 1 by simp] at k4
  obtain ⟨W1, hW1⟩ : ∃ W1, ((w.alloc (.cells #[.int .u8 0, .int .u8 0, .int .i64 0, .int .i64 0, .int .u64 0, .slice none 0 0] 40)).alloc (.cells #[.int .u8 0, .int .u8 0, .int .i64 0, .int .i64 0, .int .u64 0, .slice none 0 0] 40)) = W1 := ⟨_, rfl⟩
  rw [hW1] at B1 k2 k4
  have HW1 := Lib.hid hW1
  have hw1s : W1.heap.size = w.heap.size + 2 := by rw [← hW1]; simp
  have GW := Lib.hid (rwords_any s W1 (by omega))
  have HB1 := Lib.hid B1
  have HK2 := Lib.hid k2
  have HK4 := Lib.hid k4
  have HW1S := Lib.hid hw1s
  have hwl := wordsL_length (numsOf s)
  rw [numsOf_length] at hwl
  have hw0 : 0 < (wordsL (numsOf s)).length := by
    have := wordsL_ne (numsOf s)
    cases h : wordsL (numsOf s) with
    | nil => exact absurd h this
    | cons _ _ => simp
  have HMEM := Lib.hid (wordsL_mem (numsOf s))
  have HOS := Lib.hid (numsOf_octets s)
  have hnl := numsOf_length s
  have HNL := Lib.hid hnl
  clear B0 B1 k2 k4 hW1 hw1s hnl
  go_enter Try.func36, Try.ntmps36
  go_wp2_with fail
  rw [HW1.out]
  refine GW.out.mono ?_
  rintro e w3 ⟨v3, rfl, own3, hb3⟩
  obtain ⟨A3, c3, rfl, _, _⟩ := own3.opened
  rw [List.length_map] at own3 ⊢
  obtain ⟨g3, rfl, hg3, hc0⟩ := own3.cellAt (i := 0) (by rw [List.length_map]; exact hw0)
  rw [List.getElem_map] at hc0
  obtain ⟨ws, hws⟩ : ∃ ws, wordsL (numsOf s) = ws := ⟨_, rfl⟩
  simp only [hws] at hc0 own3 hw0 hwl ⊢
  have hc0' : w3.cell? ⟨g3, 0, none⟩ = some (.string (strOfNums (ws.getD 0 []))) := by
    rw [hc0, List.getD_eq_getElem?_getD, List.getElem?_eq_getElem hw0]
    rfl
  have hmem := HMEM.out
  rw [hws] at hmem
  have hoct : ∀ v ∈ ws, Octets v ∧ v.length ≤ 1000000 := fun v hv => by
    obtain ⟨h1, h2⟩ := hmem v hv
    exact ⟨fun c hc => HOS.out c (h1 c hc).1, by rw [HNL.out] at h2; omega⟩
  have HT : Hid (HoldsT w3 w3.heap.size (some ⟨g3, 0, none⟩) ws) := Lib.hid (fun _ => ⟨g3, 0, rfl, hg3, fun j hj => by
    obtain ⟨g', e', _, hcj⟩ := own3.cellAt (i := j) (by rw [List.length_map]; exact hj)
    injection e' with e'
    injection e' with e1 e2 e3
    subst e1
    rw [List.getElem_map] at hcj
    rw [Nat.zero_add, List.getD_eq_getElem?_getD, List.getElem?_eq_getElem hj]
    exact hcj⟩)
  have ho0 : Octets (ws.getD 0 []) := (hoct _ (by rw [List.getD_eq_getElem?_getD, List.getElem?_eq_getElem hw0]; exact List.getElem_mem hw0)).1
  have GF := Lib.hid (rform_any (strOfNums (ws.getD 0 [])) w3)
  have HN0 := Lib.hid (nums_str ho0)
  have GFi := Lib.hid (fun (f : ByteArray) (hf : f.size ≤ 100) => rfields_any (some ⟨g3, 0, none⟩) ws c3 f w3 hf (by omega) hoct HT.out)
  obtain ⟨w0, hw00⟩ : ∃ w0, ws.getD 0 [] = w0 := ⟨_, rfl⟩
  rw [hw00] at GF HN0 hc0'
  have HACT := Lib.hid (show actL (numsOf s) = match formL w0 with
    | none => .error 21
    | some (f, k) => match fieldsL ws f with
      | none => .error 3
      | some (ns, ts) => .ok (actOf k ns ts) by unfold actL; rw [hws, hw00])
  have hb3w : Below w.heap.size w w3 := HB1.out.trans (hb3.mono HB1.out.size)
  have q2 := HK2.out.below hb3 (by rw [HW1S.out]; omega)
  have q4 := HK4.out.below hb3 (by rw [HW1S.out]; omega)
  have HQ2 := Lib.hid q2
  have HQ4 := Lib.hid q4
  have HB3 := Lib.hid hb3w
  have hs3 : w.heap.size + 2 ≤ w3.heap.size := by have := hb3.size; rw [HW1S.out] at this; exact this
  clear hmem hoct ho0 hc0 own3 hb3 hb3w q2 q4 hws hw00 HMEM HOS
  by_cases h0 : w0 = [98, 117, 105, 108, 100]
  · have HF := Lib.hid (show formL w0 = some ([98, 110, 116], 1) by unfold formL; rw [if_pos h0])
    have HNF := Lib.hid (nums_str (xs := [98, 110, 116]) (show Octets [98, 110, 116] by unfold Octets; decide))
    have GFF := Lib.hid (GFi.out (strOfNums [98, 110, 116]) (by rw [strOfNums_size]; decide))
    clear h0
    go_wp2_with fail
    refine GF.out.mono ?_
    intro e w4 hF
    unfold FormTo at hF
    rw [HN0.out, HF.out] at hF
    obtain ⟨rfl, rfl⟩ := hF
    go_wp2_with fail
    refine GFF.out.mono ?_
    rintro e w5 ⟨_, _, ok, ns, es, ⟨AN, nN, cN, rfl⟩, ⟨AT, nT, cT, rfl⟩, rfl, hbad, hgood, hb5⟩
    rw [HNF.out] at hbad hgood
    have hs5 : w.heap.size + 2 ≤ w5.heap.size := Nat.le_trans hs3 hb5.size
    have q2 := HQ2.out.below hb5 (by omega)
    have q4 := HQ4.out.below hb5 (by omega)
    have HB5 := Lib.hid (HB3.out.trans (hb5.mono HB3.out.size))
    have hs35 := hb5.size
    clear hb5
    cases ok with
    | false =>
      have HA := Lib.hid (show actL (numsOf s) = .error 3 by rw [HACT.out, HF.out]; simp only; rw [hbad rfl])
      have p2 := q2.alloc (.cells #[.slice AN nN cN, .slice AT nT cT] 92)
      have p4 := q4.alloc (.cells #[.slice AN nN cN, .slice AT nT cT] 92)
      have HBA := Lib.hid (HB5.out.alloc (by omega) (.cells #[.slice AN nN cN, .slice AT nT cT] 92))
      clear hbad hgood
      have y0 := p4.cell 0
      have y1 := p4.cell 1
      have y2 := p4.cell 2
      have y3 := p4.cell 3
      have y4 := p4.cell 4
      have y5 := p4.cell 5
      have x0 := p2.cell 0
      have x1 := p2.cell 1
      have x2 := p2.cell 2
      have x3 := p2.cell 3
      have x4 := p2.cell 4
      have x5 := p2.cell 5
      have xf := fun k => p2.frozen k
      simp only [List.getElem?_toArray, List.getElem?_cons_zero, List.getElem?_cons_succ] at x0 x1 x2 x3 x4 x5 y0 y1 y2 y3 y4 y5
      clear p2 p4 q2 q4
      go_wp2_with fail
      refine bodyPost_ret (v := .tuple #[actV zeroA (.slice none 0 0), .int .i64 3]) (by simp [results, Try.results36, go_sem, x0, x1, x2, x3, x4, x5, actV, zeroA]) rfl ?_
      unfold ActTo
      rw [HA.out]
      exact ⟨below6 HBA.out (Nat.le_refl _) _ _ _ _ _ _, rfl⟩
    | true =>
      obtain ⟨hfl, oN, oT⟩ := hgood rfl
      obtain ⟨a0, a1, t2, rfl, hts, la0, ha0, la1, ha1⟩ := fields_bnt hfl
      have HA := Lib.hid (show actL (numsOf s) = .ok (actOf 1 _ _) by rw [HACT.out, HF.out]; simp only; rw [hfl])
      clear hbad hgood hfl
      obtain ⟨u, rfl⟩ : ∃ u, es = [(u, t2)] := by
        match es, hts with
        | [(u, z)], h => exact ⟨u, by simp at h; rw [h]⟩
      obtain ⟨gT, rfl, hnT, hgT, cT0⟩ := row_cells oT.row (by simp)
      obtain rfl : nT = 1 := hnT
      have oU : Own w5 w3.heap.size 5 .u8 u t2 := oT.each (u, t2) (by simp)
      obtain ⟨AU, cU, rfl, _, _, _⟩ := oU.opened
      simp only [List.map_cons, List.map_nil, List.getElem_cons_zero] at cT0
      obtain ⟨gN, rfl, hnN, hgN, cN0⟩ := own_cells oN (by simp)
      obtain rfl : nN = 2 := hnN
      have n0 := cN0 0 (by simp)
      have n1 := cN0 1 (by simp)
      simp only [List.getD_cons_zero, List.getD_cons_succ] at n0 n1
      have hB57 := ((Below.refl w5.heap.size w5).alloc (Nat.le_refl _) (.cells #[.slice (some ⟨gN, 0, none⟩) 2 cN, .slice (some ⟨gT, 0, none⟩) 1 cT] 92)).alloc (by simp) (.cells #[.int .u8 1, .int .u8 0, .int .i64 0, .int .i64 0, .int .u64 0, .slice none 0 0] 40)
      have p9 := (Block.new w5 92 #[.slice (some ⟨gN, 0, none⟩) 2 cN, .slice (some ⟨gT, 0, none⟩) 1 cT]).alloc (.cells #[.int .u8 1, .int .u8 0, .int .i64 0, .int .i64 0, .int .u64 0, .slice none 0 0] 40)
      have p10 := Block.new (w5.alloc (.cells #[.slice (some ⟨gN, 0, none⟩) 2 cN, .slice (some ⟨gT, 0, none⟩) 1 cT] 92)) 40 #[.int .u8 1, .int .u8 0, .int .i64 0, .int .i64 0, .int .u64 0, .slice none 0 0]
      rw [show (w5.alloc (.cells #[.slice (some ⟨gN, 0, none⟩) 2 cN, .slice (some ⟨gT, 0, none⟩) 1 cT] 92)).heap.size = w5.heap.size + 1 by simp] at p10
      have hBF := ((Below.refl w5.heap.size w5).alloc (Nat.le_refl _) (.cells #[.slice (some ⟨gN, 0, none⟩) 2 cN, .slice (some ⟨gT, 0, none⟩) 1 cT] 92)).alloc (by simp) (.cells #[.int .u8 1, .int .u8 a0, .int .i64 0, .int .i64 0, .int .u64 a1, (.slice AU t2.length cU)] 40)
      have p2 := q2.below hBF (by omega)
      have HBF := Lib.hid (HB5.out.trans (hBF.mono HB5.out.size))
      have HTF := Lib.hid (turns6 (g := w.heap.size) (S := (· = w.heap.size)) (TurnsIn.ofNew hBF) rfl (.int .u8 1) (.int .u8 a0) (.int .i64 0) (.int .i64 0) (.int .u64 a1) ((.slice AU t2.length cU)))
      have HOU := Lib.hid (oU.mono (show w.heap.size ≤ w3.heap.size by omega))
      have HQ2B := Lib.hid q2
      have f0 := (hB57.cell (p := ⟨gT, 0, none⟩) hgT).trans cT0
      have hneT : ¬ gT = w5.heap.size + 1 := by omega
      have m0 := (hB57.cell (p := ⟨gN, 0, none⟩) hgN).trans n0
      have m1 := (hB57.cell (p := ⟨gN, 1, none⟩) hgN).trans n1
      have hneN : ¬ gN = w5.heap.size + 1 := by omega
      have v0 := p9.cell 0
      have v1 := p9.cell 1
      have rr := fun k => p10.cell k
      have r0 := rr 0
      have r1 := rr 1
      have r2 := rr 2
      have r3 := rr 3
      have r4 := rr 4
      have r5 := rr 5
      have rf := fun k => p10.frozen k
      have x0 := p2.cell 0
      have x1 := p2.cell 1
      have x2 := p2.cell 2
      have x3 := p2.cell 3
      have x4 := p2.cell 4
      have x5 := p2.cell 5
      have xf := fun k => p2.frozen k
      simp only [List.getElem?_toArray, List.getElem?_cons_zero, List.getElem?_cons_succ] at x0 x1 x2 x3 x4 x5 v0 v1 r0 r1 r2 r3 r4 r5
      have hne2 : ¬ w.heap.size = w5.heap.size + 1 := by omega
      clear rr p2 p9 p10 q2 q4 hB57 hBF
      go_wp2_with fail
      refine bodyPost_ret (v := .tuple #[.agg #[.int .u8 1, .int .u8 a0, .int .i64 0, .int .i64 0, .int .u64 a1, (.slice AU t2.length cU)], .int .i64 0]) (by simp [results, Try.results36, go_sem, x0, x1, x2, x3, x4, x5]) rfl ?_
      unfold ActTo
      rw [HA.out]
      exact ⟨below6 HBF.out (Nat.le_refl _) _ _ _ _ _ _, (.slice AU t2.length cU), rfl, (HOU.out.out HTF.out (fun g hg he => by subst he; obtain ⟨cs, hcs⟩ := own_block HOU.out hg; exact absurd (block_type hcs HQ2B.out) (by decide)))⟩
  by_cases h1 : w0 = [102, 101, 101, 100]
  · have HF := Lib.hid (show formL w0 = some ([110, 110], 2) by unfold formL; rw [if_neg h0, if_pos h1])
    have HNF := Lib.hid (nums_str (xs := [110, 110]) (show Octets [110, 110] by unfold Octets; decide))
    have GFF := Lib.hid (GFi.out (strOfNums [110, 110]) (by rw [strOfNums_size]; decide))
    clear h0 h1
    go_wp2_with fail
    refine GF.out.mono ?_
    intro e w4 hF
    unfold FormTo at hF
    rw [HN0.out, HF.out] at hF
    obtain ⟨rfl, rfl⟩ := hF
    go_wp2_with fail
    refine GFF.out.mono ?_
    rintro e w5 ⟨_, _, ok, ns, es, ⟨AN, nN, cN, rfl⟩, ⟨AT, nT, cT, rfl⟩, rfl, hbad, hgood, hb5⟩
    rw [HNF.out] at hbad hgood
    have hs5 : w.heap.size + 2 ≤ w5.heap.size := Nat.le_trans hs3 hb5.size
    have q2 := HQ2.out.below hb5 (by omega)
    have q4 := HQ4.out.below hb5 (by omega)
    have HB5 := Lib.hid (HB3.out.trans (hb5.mono HB3.out.size))
    have hs35 := hb5.size
    clear hb5
    cases ok with
    | false =>
      have HA := Lib.hid (show actL (numsOf s) = .error 3 by rw [HACT.out, HF.out]; simp only; rw [hbad rfl])
      have p2 := q2.alloc (.cells #[.slice AN nN cN, .slice AT nT cT] 92)
      have p4 := q4.alloc (.cells #[.slice AN nN cN, .slice AT nT cT] 92)
      have HBA := Lib.hid (HB5.out.alloc (by omega) (.cells #[.slice AN nN cN, .slice AT nT cT] 92))
      clear hbad hgood
      have y0 := p4.cell 0
      have y1 := p4.cell 1
      have y2 := p4.cell 2
      have y3 := p4.cell 3
      have y4 := p4.cell 4
      have y5 := p4.cell 5
      have x0 := p2.cell 0
      have x1 := p2.cell 1
      have x2 := p2.cell 2
      have x3 := p2.cell 3
      have x4 := p2.cell 4
      have x5 := p2.cell 5
      have xf := fun k => p2.frozen k
      simp only [List.getElem?_toArray, List.getElem?_cons_zero, List.getElem?_cons_succ] at x0 x1 x2 x3 x4 x5 y0 y1 y2 y3 y4 y5
      clear p2 p4 q2 q4
      go_wp2_with fail
      refine bodyPost_ret (v := .tuple #[actV zeroA (.slice none 0 0), .int .i64 3]) (by simp [results, Try.results36, go_sem, x0, x1, x2, x3, x4, x5, actV, zeroA]) rfl ?_
      unfold ActTo
      rw [HA.out]
      exact ⟨below6 HBA.out (Nat.le_refl _) _ _ _ _ _ _, rfl⟩
    | true =>
      obtain ⟨hfl, oN, oT⟩ := hgood rfl
      obtain ⟨a0, a1, rfl, hts, la0, ha0, la1, ha1⟩ := fields_nn hfl
      have HA := Lib.hid (show actL (numsOf s) = .ok (actOf 2 _ _) by rw [HACT.out, HF.out]; simp only; rw [hfl])
      clear hbad hgood hfl
      obtain ⟨gN, rfl, hnN, hgN, cN0⟩ := own_cells oN (by simp)
      obtain rfl : nN = 2 := hnN
      have n0 := cN0 0 (by simp)
      have n1 := cN0 1 (by simp)
      simp only [List.getD_cons_zero, List.getD_cons_succ] at n0 n1
      have hB57 := ((Below.refl w5.heap.size w5).alloc (Nat.le_refl _) (.cells #[.slice (some ⟨gN, 0, none⟩) 2 cN, .slice AT nT cT] 92)).alloc (by simp) (.cells #[.int .u8 2, .int .u8 0, .int .i64 0, .int .i64 0, .int .u64 0, .slice none 0 0] 40)
      have p9 := (Block.new w5 92 #[.slice (some ⟨gN, 0, none⟩) 2 cN, .slice AT nT cT]).alloc (.cells #[.int .u8 2, .int .u8 0, .int .i64 0, .int .i64 0, .int .u64 0, .slice none 0 0] 40)
      have p10 := Block.new (w5.alloc (.cells #[.slice (some ⟨gN, 0, none⟩) 2 cN, .slice AT nT cT] 92)) 40 #[.int .u8 2, .int .u8 0, .int .i64 0, .int .i64 0, .int .u64 0, .slice none 0 0]
      rw [show (w5.alloc (.cells #[.slice (some ⟨gN, 0, none⟩) 2 cN, .slice AT nT cT] 92)).heap.size = w5.heap.size + 1 by simp] at p10
      have hBF := ((Below.refl w5.heap.size w5).alloc (Nat.le_refl _) (.cells #[.slice (some ⟨gN, 0, none⟩) 2 cN, .slice AT nT cT] 92)).alloc (by simp) (.cells #[.int .u8 2, .int .u8 0, .int .i64 a0, .int .i64 a1, .int .u64 0, (.slice none 0 0)] 40)
      have p2 := q2.below hBF (by omega)
      have HBF := Lib.hid (HB5.out.trans (hBF.mono HB5.out.size))
      have HTF := Lib.hid (turns6 (g := w.heap.size) (S := (· = w.heap.size)) (TurnsIn.ofNew hBF) rfl (.int .u8 2) (.int .u8 0) (.int .i64 a0) (.int .i64 a1) (.int .u64 0) ((.slice none 0 0)))
      have m0 := (hB57.cell (p := ⟨gN, 0, none⟩) hgN).trans n0
      have m1 := (hB57.cell (p := ⟨gN, 1, none⟩) hgN).trans n1
      have hneN : ¬ gN = w5.heap.size + 1 := by omega
      have v0 := p9.cell 0
      have v1 := p9.cell 1
      have rr := fun k => p10.cell k
      have r0 := rr 0
      have r1 := rr 1
      have r2 := rr 2
      have r3 := rr 3
      have r4 := rr 4
      have r5 := rr 5
      have rf := fun k => p10.frozen k
      have x0 := p2.cell 0
      have x1 := p2.cell 1
      have x2 := p2.cell 2
      have x3 := p2.cell 3
      have x4 := p2.cell 4
      have x5 := p2.cell 5
      have xf := fun k => p2.frozen k
      simp only [List.getElem?_toArray, List.getElem?_cons_zero, List.getElem?_cons_succ] at x0 x1 x2 x3 x4 x5 v0 v1 r0 r1 r2 r3 r4 r5
      have hne2 : ¬ w.heap.size = w5.heap.size + 1 := by omega
      clear rr p2 p9 p10 q2 q4 hB57 hBF
      go_wp2_with fail
      refine bodyPost_ret (v := .tuple #[.agg #[.int .u8 2, .int .u8 0, .int .i64 a0, .int .i64 a1, .int .u64 0, (.slice none 0 0)], .int .i64 0]) (by simp [results, Try.results36, go_sem, x0, x1, x2, x3, x4, x5]) rfl ?_
      unfold ActTo
      rw [HA.out]
      exact ⟨below6 HBF.out (Nat.le_refl _) _ _ _ _ _ _, (.slice none 0 0), rfl, Own.nil _ _ _ _⟩
  by_cases h2 : w0 = [98, 101, 103, 105, 110]
  · have HF := Lib.hid (show formL w0 = some ([], 3) by unfold formL; rw [if_neg h0, if_neg h1, if_pos h2])
    have HNF := Lib.hid (nums_str (xs := []) (show Octets [] by unfold Octets; decide))
    have GFF := Lib.hid (GFi.out (strOfNums []) (by rw [strOfNums_size]; decide))
    clear h0 h1 h2
    go_wp2_with fail
    refine GF.out.mono ?_
    intro e w4 hF
    unfold FormTo at hF
    rw [HN0.out, HF.out] at hF
    obtain ⟨rfl, rfl⟩ := hF
    go_wp2_with fail
    refine GFF.out.mono ?_
    rintro e w5 ⟨_, _, ok, ns, es, ⟨AN, nN, cN, rfl⟩, ⟨AT, nT, cT, rfl⟩, rfl, hbad, hgood, hb5⟩
    rw [HNF.out] at hbad hgood
    have hs5 : w.heap.size + 2 ≤ w5.heap.size := Nat.le_trans hs3 hb5.size
    have q2 := HQ2.out.below hb5 (by omega)
    have q4 := HQ4.out.below hb5 (by omega)
    have HB5 := Lib.hid (HB3.out.trans (hb5.mono HB3.out.size))
    have hs35 := hb5.size
    clear hb5
    cases ok with
    | false =>
      have HA := Lib.hid (show actL (numsOf s) = .error 3 by rw [HACT.out, HF.out]; simp only; rw [hbad rfl])
      have p2 := q2.alloc (.cells #[.slice AN nN cN, .slice AT nT cT] 92)
      have p4 := q4.alloc (.cells #[.slice AN nN cN, .slice AT nT cT] 92)
      have HBA := Lib.hid (HB5.out.alloc (by omega) (.cells #[.slice AN nN cN, .slice AT nT cT] 92))
      clear hbad hgood
      have y0 := p4.cell 0
      have y1 := p4.cell 1
      have y2 := p4.cell 2
      have y3 := p4.cell 3
      have y4 := p4.cell 4
      have y5 := p4.cell 5
      have x0 := p2.cell 0
      have x1 := p2.cell 1
      have x2 := p2.cell 2
      have x3 := p2.cell 3
      have x4 := p2.cell 4
      have x5 := p2.cell 5
      have xf := fun k => p2.frozen k
      simp only [List.getElem?_toArray, List.getElem?_cons_zero, List.getElem?_cons_succ] at x0 x1 x2 x3 x4 x5 y0 y1 y2 y3 y4 y5
      clear p2 p4 q2 q4
      go_wp2_with fail
      refine bodyPost_ret (v := .tuple #[actV zeroA (.slice none 0 0), .int .i64 3]) (by simp [results, Try.results36, go_sem, x0, x1, x2, x3, x4, x5, actV, zeroA]) rfl ?_
      unfold ActTo
      rw [HA.out]
      exact ⟨below6 HBA.out (Nat.le_refl _) _ _ _ _ _ _, rfl⟩
    | true =>
      obtain ⟨hfl, oN, oT⟩ := hgood rfl
      obtain ⟨rfl, hts⟩ := fields_no hfl
      have HA := Lib.hid (show actL (numsOf s) = .ok (actOf 3 _ _) by rw [HACT.out, HF.out]; simp only; rw [hfl])
      clear hbad hgood hfl
      have hB57 := ((Below.refl w5.heap.size w5).alloc (Nat.le_refl _) (.cells #[.slice AN nN cN, .slice AT nT cT] 92)).alloc (by simp) (.cells #[.int .u8 3, .int .u8 0, .int .i64 0, .int .i64 0, .int .u64 0, .slice none 0 0] 40)
      have p9 := (Block.new w5 92 #[.slice AN nN cN, .slice AT nT cT]).alloc (.cells #[.int .u8 3, .int .u8 0, .int .i64 0, .int .i64 0, .int .u64 0, .slice none 0 0] 40)
      have p10 := Block.new (w5.alloc (.cells #[.slice AN nN cN, .slice AT nT cT] 92)) 40 #[.int .u8 3, .int .u8 0, .int .i64 0, .int .i64 0, .int .u64 0, .slice none 0 0]
      rw [show (w5.alloc (.cells #[.slice AN nN cN, .slice AT nT cT] 92)).heap.size = w5.heap.size + 1 by simp] at p10
      have hBF := ((Below.refl w5.heap.size w5).alloc (Nat.le_refl _) (.cells #[.slice AN nN cN, .slice AT nT cT] 92)).alloc (by simp) (.cells #[.int .u8 3, .int .u8 0, .int .i64 0, .int .i64 0, .int .u64 0, (.slice none 0 0)] 40)
      have p2 := q2.below hBF (by omega)
      have HBF := Lib.hid (HB5.out.trans (hBF.mono HB5.out.size))
      have HTF := Lib.hid (turns6 (g := w.heap.size) (S := (· = w.heap.size)) (TurnsIn.ofNew hBF) rfl (.int .u8 3) (.int .u8 0) (.int .i64 0) (.int .i64 0) (.int .u64 0) ((.slice none 0 0)))
      have v0 := p9.cell 0
      have v1 := p9.cell 1
      have rr := fun k => p10.cell k
      have r0 := rr 0
      have r1 := rr 1
      have r2 := rr 2
      have r3 := rr 3
      have r4 := rr 4
      have r5 := rr 5
      have rf := fun k => p10.frozen k
      have x0 := p2.cell 0
      have x1 := p2.cell 1
      have x2 := p2.cell 2
      have x3 := p2.cell 3
      have x4 := p2.cell 4
      have x5 := p2.cell 5
      have xf := fun k => p2.frozen k
      simp only [List.getElem?_toArray, List.getElem?_cons_zero, List.getElem?_cons_succ] at x0 x1 x2 x3 x4 x5 v0 v1 r0 r1 r2 r3 r4 r5
      have hne2 : ¬ w.heap.size = w5.heap.size + 1 := by omega
      clear rr p2 p9 p10 q2 q4 hB57 hBF
      go_wp2_with fail
      refine bodyPost_ret (v := .tuple #[.agg #[.int .u8 3, .int .u8 0, .int .i64 0, .int .i64 0, .int .u64 0, (.slice none 0 0)], .int .i64 0]) (by simp [results, Try.results36, go_sem, x0, x1, x2, x3, x4, x5]) rfl ?_
      unfold ActTo
      rw [HA.out]
      exact ⟨below6 HBF.out (Nat.le_refl _) _ _ _ _ _ _, (.slice none 0 0), rfl, Own.nil _ _ _ _⟩
  by_cases h3 : w0 = [99, 111, 109, 109, 105, 116]
  · have HF := Lib.hid (show formL w0 = some ([], 4) by unfold formL; rw [if_neg h0, if_neg h1, if_neg h2, if_pos h3])
    have HNF := Lib.hid (nums_str (xs := []) (show Octets [] by unfold Octets; decide))
    have GFF := Lib.hid (GFi.out (strOfNums []) (by rw [strOfNums_size]; decide))
    clear h0 h1 h2 h3
    go_wp2_with fail
    refine GF.out.mono ?_
    intro e w4 hF
    unfold FormTo at hF
    rw [HN0.out, HF.out] at hF
    obtain ⟨rfl, rfl⟩ := hF
    go_wp2_with fail
    refine GFF.out.mono ?_
    rintro e w5 ⟨_, _, ok, ns, es, ⟨AN, nN, cN, rfl⟩, ⟨AT, nT, cT, rfl⟩, rfl, hbad, hgood, hb5⟩
    rw [HNF.out] at hbad hgood
    have hs5 : w.heap.size + 2 ≤ w5.heap.size := Nat.le_trans hs3 hb5.size
    have q2 := HQ2.out.below hb5 (by omega)
    have q4 := HQ4.out.below hb5 (by omega)
    have HB5 := Lib.hid (HB3.out.trans (hb5.mono HB3.out.size))
    have hs35 := hb5.size
    clear hb5
    cases ok with
    | false =>
      have HA := Lib.hid (show actL (numsOf s) = .error 3 by rw [HACT.out, HF.out]; simp only; rw [hbad rfl])
      have p2 := q2.alloc (.cells #[.slice AN nN cN, .slice AT nT cT] 92)
      have p4 := q4.alloc (.cells #[.slice AN nN cN, .slice AT nT cT] 92)
      have HBA := Lib.hid (HB5.out.alloc (by omega) (.cells #[.slice AN nN cN, .slice AT nT cT] 92))
      clear hbad hgood
      have y0 := p4.cell 0
      have y1 := p4.cell 1
      have y2 := p4.cell 2
      have y3 := p4.cell 3
      have y4 := p4.cell 4
      have y5 := p4.cell 5
      have x0 := p2.cell 0
      have x1 := p2.cell 1
      have x2 := p2.cell 2
      have x3 := p2.cell 3
      have x4 := p2.cell 4
      have x5 := p2.cell 5
      have xf := fun k => p2.frozen k
      simp only [List.getElem?_toArray, List.getElem?_cons_zero, List.getElem?_cons_succ] at x0 x1 x2 x3 x4 x5 y0 y1 y2 y3 y4 y5
      clear p2 p4 q2 q4
      go_wp2_with fail
      refine bodyPost_ret (v := .tuple #[actV zeroA (.slice none 0 0), .int .i64 3]) (by simp [results, Try.results36, go_sem, x0, x1, x2, x3, x4, x5, actV, zeroA]) rfl ?_
      unfold ActTo
      rw [HA.out]
      exact ⟨below6 HBA.out (Nat.le_refl _) _ _ _ _ _ _, rfl⟩
    | true =>
      obtain ⟨hfl, oN, oT⟩ := hgood rfl
      obtain ⟨rfl, hts⟩ := fields_no hfl
      have HA := Lib.hid (show actL (numsOf s) = .ok (actOf 4 _ _) by rw [HACT.out, HF.out]; simp only; rw [hfl])
      clear hbad hgood hfl
      have hB57 := ((Below.refl w5.heap.size w5).alloc (Nat.le_refl _) (.cells #[.slice AN nN cN, .slice AT nT cT] 92)).alloc (by simp) (.cells #[.int .u8 4, .int .u8 0, .int .i64 0, .int .i64 0, .int .u64 0, .slice none 0 0] 40)
      have p9 := (Block.new w5 92 #[.slice AN nN cN, .slice AT nT cT]).alloc (.cells #[.int .u8 4, .int .u8 0, .int .i64 0, .int .i64 0, .int .u64 0, .slice none 0 0] 40)
      have p10 := Block.new (w5.alloc (.cells #[.slice AN nN cN, .slice AT nT cT] 92)) 40 #[.int .u8 4, .int .u8 0, .int .i64 0, .int .i64 0, .int .u64 0, .slice none 0 0]
      rw [show (w5.alloc (.cells #[.slice AN nN cN, .slice AT nT cT] 92)).heap.size = w5.heap.size + 1 by simp] at p10
      have hBF := ((Below.refl w5.heap.size w5).alloc (Nat.le_refl _) (.cells #[.slice AN nN cN, .slice AT nT cT] 92)).alloc (by simp) (.cells #[.int .u8 4, .int .u8 0, .int .i64 0, .int .i64 0, .int .u64 0, (.slice none 0 0)] 40)
      have p2 := q2.below hBF (by omega)
      have HBF := Lib.hid (HB5.out.trans (hBF.mono HB5.out.size))
      have HTF := Lib.hid (turns6 (g := w.heap.size) (S := (· = w.heap.size)) (TurnsIn.ofNew hBF) rfl (.int .u8 4) (.int .u8 0) (.int .i64 0) (.int .i64 0) (.int .u64 0) ((.slice none 0 0)))
      have v0 := p9.cell 0
      have v1 := p9.cell 1
      have rr := fun k => p10.cell k
      have r0 := rr 0
      have r1 := rr 1
      have r2 := rr 2
      have r3 := rr 3
      have r4 := rr 4
      have r5 := rr 5
      have rf := fun k => p10.frozen k
      have x0 := p2.cell 0
      have x1 := p2.cell 1
      have x2 := p2.cell 2
      have x3 := p2.cell 3
      have x4 := p2.cell 4
      have x5 := p2.cell 5
      have xf := fun k => p2.frozen k
      simp only [List.getElem?_toArray, List.getElem?_cons_zero, List.getElem?_cons_succ] at x0 x1 x2 x3 x4 x5 v0 v1 r0 r1 r2 r3 r4 r5
      have hne2 : ¬ w.heap.size = w5.heap.size + 1 := by omega
      clear rr p2 p9 p10 q2 q4 hB57 hBF
      go_wp2_with fail
      refine bodyPost_ret (v := .tuple #[.agg #[.int .u8 4, .int .u8 0, .int .i64 0, .int .i64 0, .int .u64 0, (.slice none 0 0)], .int .i64 0]) (by simp [results, Try.results36, go_sem, x0, x1, x2, x3, x4, x5]) rfl ?_
      unfold ActTo
      rw [HA.out]
      exact ⟨below6 HBF.out (Nat.le_refl _) _ _ _ _ _ _, (.slice none 0 0), rfl, Own.nil _ _ _ _⟩
  by_cases h4 : w0 = [99, 97, 110, 99, 101, 108]
  · have HF := Lib.hid (show formL w0 = some ([], 5) by unfold formL; rw [if_neg h0, if_neg h1, if_neg h2, if_neg h3, if_pos h4])
    have HNF := Lib.hid (nums_str (xs := []) (show Octets [] by unfold Octets; decide))
    have GFF := Lib.hid (GFi.out (strOfNums []) (by rw [strOfNums_size]; decide))
    clear h0 h1 h2 h3 h4
    go_wp2_with fail
    refine GF.out.mono ?_
    intro e w4 hF
    unfold FormTo at hF
    rw [HN0.out, HF.out] at hF
    obtain ⟨rfl, rfl⟩ := hF
    go_wp2_with fail
    refine GFF.out.mono ?_
    rintro e w5 ⟨_, _, ok, ns, es, ⟨AN, nN, cN, rfl⟩, ⟨AT, nT, cT, rfl⟩, rfl, hbad, hgood, hb5⟩
    rw [HNF.out] at hbad hgood
    have hs5 : w.heap.size + 2 ≤ w5.heap.size := Nat.le_trans hs3 hb5.size
    have q2 := HQ2.out.below hb5 (by omega)
    have q4 := HQ4.out.below hb5 (by omega)
    have HB5 := Lib.hid (HB3.out.trans (hb5.mono HB3.out.size))
    have hs35 := hb5.size
    clear hb5
    cases ok with
    | false =>
      have HA := Lib.hid (show actL (numsOf s) = .error 3 by rw [HACT.out, HF.out]; simp only; rw [hbad rfl])
      have p2 := q2.alloc (.cells #[.slice AN nN cN, .slice AT nT cT] 92)
      have p4 := q4.alloc (.cells #[.slice AN nN cN, .slice AT nT cT] 92)
      have HBA := Lib.hid (HB5.out.alloc (by omega) (.cells #[.slice AN nN cN, .slice AT nT cT] 92))
      clear hbad hgood
      have y0 := p4.cell 0
      have y1 := p4.cell 1
      have y2 := p4.cell 2
      have y3 := p4.cell 3
      have y4 := p4.cell 4
      have y5 := p4.cell 5
      have x0 := p2.cell 0
      have x1 := p2.cell 1
      have x2 := p2.cell 2
      have x3 := p2.cell 3
      have x4 := p2.cell 4
      have x5 := p2.cell 5
      have xf := fun k => p2.frozen k
      simp only [List.getElem?_toArray, List.getElem?_cons_zero, List.getElem?_cons_succ] at x0 x1 x2 x3 x4 x5 y0 y1 y2 y3 y4 y5
      clear p2 p4 q2 q4
      go_wp2_with fail
      refine bodyPost_ret (v := .tuple #[actV zeroA (.slice none 0 0), .int .i64 3]) (by simp [results, Try.results36, go_sem, x0, x1, x2, x3, x4, x5, actV, zeroA]) rfl ?_
      unfold ActTo
      rw [HA.out]
      exact ⟨below6 HBA.out (Nat.le_refl _) _ _ _ _ _ _, rfl⟩
    | true =>
      obtain ⟨hfl, oN, oT⟩ := hgood rfl
      obtain ⟨rfl, hts⟩ := fields_no hfl
      have HA := Lib.hid (show actL (numsOf s) = .ok (actOf 5 _ _) by rw [HACT.out, HF.out]; simp only; rw [hfl])
      clear hbad hgood hfl
      have hB57 := ((Below.refl w5.heap.size w5).alloc (Nat.le_refl _) (.cells #[.slice AN nN cN, .slice AT nT cT] 92)).alloc (by simp) (.cells #[.int .u8 5, .int .u8 0, .int .i64 0, .int .i64 0, .int .u64 0, .slice none 0 0] 40)
      have p9 := (Block.new w5 92 #[.slice AN nN cN, .slice AT nT cT]).alloc (.cells #[.int .u8 5, .int .u8 0, .int .i64 0, .int .i64 0, .int .u64 0, .slice none 0 0] 40)
      have p10 := Block.new (w5.alloc (.cells #[.slice AN nN cN, .slice AT nT cT] 92)) 40 #[.int .u8 5, .int .u8 0, .int .i64 0, .int .i64 0, .int .u64 0, .slice none 0 0]
      rw [show (w5.alloc (.cells #[.slice AN nN cN, .slice AT nT cT] 92)).heap.size = w5.heap.size + 1 by simp] at p10
      have hBF := ((Below.refl w5.heap.size w5).alloc (Nat.le_refl _) (.cells #[.slice AN nN cN, .slice AT nT cT] 92)).alloc (by simp) (.cells #[.int .u8 5, .int .u8 0, .int .i64 0, .int .i64 0, .int .u64 0, (.slice none 0 0)] 40)
      have p2 := q2.below hBF (by omega)
      have HBF := Lib.hid (HB5.out.trans (hBF.mono HB5.out.size))
      have HTF := Lib.hid (turns6 (g := w.heap.size) (S := (· = w.heap.size)) (TurnsIn.ofNew hBF) rfl (.int .u8 5) (.int .u8 0) (.int .i64 0) (.int .i64 0) (.int .u64 0) ((.slice none 0 0)))
      have v0 := p9.cell 0
      have v1 := p9.cell 1
      have rr := fun k => p10.cell k
      have r0 := rr 0
      have r1 := rr 1
      have r2 := rr 2
      have r3 := rr 3
      have r4 := rr 4
      have r5 := rr 5
      have rf := fun k => p10.frozen k
      have x0 := p2.cell 0
      have x1 := p2.cell 1
      have x2 := p2.cell 2
      have x3 := p2.cell 3
      have x4 := p2.cell 4
      have x5 := p2.cell 5
      have xf := fun k => p2.frozen k
      simp only [List.getElem?_toArray, List.getElem?_cons_zero, List.getElem?_cons_succ] at x0 x1 x2 x3 x4 x5 v0 v1 r0 r1 r2 r3 r4 r5
      have hne2 : ¬ w.heap.size = w5.heap.size + 1 := by omega
      clear rr p2 p9 p10 q2 q4 hB57 hBF
      go_wp2_with fail
      refine bodyPost_ret (v := .tuple #[.agg #[.int .u8 5, .int .u8 0, .int .i64 0, .int .i64 0, .int .u64 0, (.slice none 0 0)], .int .i64 0]) (by simp [results, Try.results36, go_sem, x0, x1, x2, x3, x4, x5]) rfl ?_
      unfold ActTo
      rw [HA.out]
      exact ⟨below6 HBF.out (Nat.le_refl _) _ _ _ _ _ _, (.slice none 0 0), rfl, Own.nil _ _ _ _⟩
  by_cases h5 : w0 = [102, 117, 115, 101]
  · have HF := Lib.hid (show formL w0 = some ([110], 6) by unfold formL; rw [if_neg h0, if_neg h1, if_neg h2, if_neg h3, if_neg h4, if_pos h5])
    have HNF := Lib.hid (nums_str (xs := [110]) (show Octets [110] by unfold Octets; decide))
    have GFF := Lib.hid (GFi.out (strOfNums [110]) (by rw [strOfNums_size]; decide))
    clear h0 h1 h2 h3 h4 h5
    go_wp2_with fail
    refine GF.out.mono ?_
    intro e w4 hF
    unfold FormTo at hF
    rw [HN0.out, HF.out] at hF
    obtain ⟨rfl, rfl⟩ := hF
    go_wp2_with fail
    refine GFF.out.mono ?_
    rintro e w5 ⟨_, _, ok, ns, es, ⟨AN, nN, cN, rfl⟩, ⟨AT, nT, cT, rfl⟩, rfl, hbad, hgood, hb5⟩
    rw [HNF.out] at hbad hgood
    have hs5 : w.heap.size + 2 ≤ w5.heap.size := Nat.le_trans hs3 hb5.size
    have q2 := HQ2.out.below hb5 (by omega)
    have q4 := HQ4.out.below hb5 (by omega)
    have HB5 := Lib.hid (HB3.out.trans (hb5.mono HB3.out.size))
    have hs35 := hb5.size
    clear hb5
    cases ok with
    | false =>
      have HA := Lib.hid (show actL (numsOf s) = .error 3 by rw [HACT.out, HF.out]; simp only; rw [hbad rfl])
      have p2 := q2.alloc (.cells #[.slice AN nN cN, .slice AT nT cT] 92)
      have p4 := q4.alloc (.cells #[.slice AN nN cN, .slice AT nT cT] 92)
      have HBA := Lib.hid (HB5.out.alloc (by omega) (.cells #[.slice AN nN cN, .slice AT nT cT] 92))
      clear hbad hgood
      have y0 := p4.cell 0
      have y1 := p4.cell 1
      have y2 := p4.cell 2
      have y3 := p4.cell 3
      have y4 := p4.cell 4
      have y5 := p4.cell 5
      have x0 := p2.cell 0
      have x1 := p2.cell 1
      have x2 := p2.cell 2
      have x3 := p2.cell 3
      have x4 := p2.cell 4
      have x5 := p2.cell 5
      have xf := fun k => p2.frozen k
      simp only [List.getElem?_toArray, List.getElem?_cons_zero, List.getElem?_cons_succ] at x0 x1 x2 x3 x4 x5 y0 y1 y2 y3 y4 y5
      clear p2 p4 q2 q4
      go_wp2_with fail
      refine bodyPost_ret (v := .tuple #[actV zeroA (.slice none 0 0), .int .i64 3]) (by simp [results, Try.results36, go_sem, x0, x1, x2, x3, x4, x5, actV, zeroA]) rfl ?_
      unfold ActTo
      rw [HA.out]
      exact ⟨below6 HBA.out (Nat.le_refl _) _ _ _ _ _ _, rfl⟩
    | true =>
      obtain ⟨hfl, oN, oT⟩ := hgood rfl
      obtain ⟨a0, rfl, hts, la0, ha0⟩ := fields_n hfl
      have HA := Lib.hid (show actL (numsOf s) = .ok (actOf 6 _ _) by rw [HACT.out, HF.out]; simp only; rw [hfl])
      clear hbad hgood hfl
      obtain ⟨gN, rfl, hnN, hgN, cN0⟩ := own_cells oN (by simp)
      obtain rfl : nN = 1 := hnN
      have n0 := cN0 0 (by simp)
      simp only [List.getD_cons_zero, List.getD_cons_succ] at n0
      have hB57 := ((Below.refl w5.heap.size w5).alloc (Nat.le_refl _) (.cells #[.slice (some ⟨gN, 0, none⟩) 1 cN, .slice AT nT cT] 92)).alloc (by simp) (.cells #[.int .u8 6, .int .u8 0, .int .i64 0, .int .i64 0, .int .u64 0, .slice none 0 0] 40)
      have p9 := (Block.new w5 92 #[.slice (some ⟨gN, 0, none⟩) 1 cN, .slice AT nT cT]).alloc (.cells #[.int .u8 6, .int .u8 0, .int .i64 0, .int .i64 0, .int .u64 0, .slice none 0 0] 40)
      have p10 := Block.new (w5.alloc (.cells #[.slice (some ⟨gN, 0, none⟩) 1 cN, .slice AT nT cT] 92)) 40 #[.int .u8 6, .int .u8 0, .int .i64 0, .int .i64 0, .int .u64 0, .slice none 0 0]
      rw [show (w5.alloc (.cells #[.slice (some ⟨gN, 0, none⟩) 1 cN, .slice AT nT cT] 92)).heap.size = w5.heap.size + 1 by simp] at p10
      have hBF := ((Below.refl w5.heap.size w5).alloc (Nat.le_refl _) (.cells #[.slice (some ⟨gN, 0, none⟩) 1 cN, .slice AT nT cT] 92)).alloc (by simp) (.cells #[.int .u8 6, .int .u8 0, .int .i64 0, .int .i64 a0, .int .u64 0, (.slice none 0 0)] 40)
      have p2 := q2.below hBF (by omega)
      have HBF := Lib.hid (HB5.out.trans (hBF.mono HB5.out.size))
      have HTF := Lib.hid (turns6 (g := w.heap.size) (S := (· = w.heap.size)) (TurnsIn.ofNew hBF) rfl (.int .u8 6) (.int .u8 0) (.int .i64 0) (.int .i64 a0) (.int .u64 0) ((.slice none 0 0)))
      have m0 := (hB57.cell (p := ⟨gN, 0, none⟩) hgN).trans n0
      have hneN : ¬ gN = w5.heap.size + 1 := by omega
      have v0 := p9.cell 0
      have v1 := p9.cell 1
      have rr := fun k => p10.cell k
      have r0 := rr 0
      have r1 := rr 1
      have r2 := rr 2
      have r3 := rr 3
      have r4 := rr 4
      have r5 := rr 5
      have rf := fun k => p10.frozen k
      have x0 := p2.cell 0
      have x1 := p2.cell 1
      have x2 := p2.cell 2
      have x3 := p2.cell 3
      have x4 := p2.cell 4
      have x5 := p2.cell 5
      have xf := fun k => p2.frozen k
      simp only [List.getElem?_toArray, List.getElem?_cons_zero, List.getElem?_cons_succ] at x0 x1 x2 x3 x4 x5 v0 v1 r0 r1 r2 r3 r4 r5
      have hne2 : ¬ w.heap.size = w5.heap.size + 1 := by omega
      clear rr p2 p9 p10 q2 q4 hB57 hBF
      go_wp2_with fail
      refine bodyPost_ret (v := .tuple #[.agg #[.int .u8 6, .int .u8 0, .int .i64 0, .int .i64 a0, .int .u64 0, (.slice none 0 0)], .int .i64 0]) (by simp [results, Try.results36, go_sem, x0, x1, x2, x3, x4, x5]) rfl ?_
      unfold ActTo
      rw [HA.out]
      exact ⟨below6 HBF.out (Nat.le_refl _) _ _ _ _ _ _, (.slice none 0 0), rfl, Own.nil _ _ _ _⟩
  by_cases h6 : w0 = [102, 97, 108, 108]
  · have HF := Lib.hid (show formL w0 = some ([116], 7) by unfold formL; rw [if_neg h0, if_neg h1, if_neg h2, if_neg h3, if_neg h4, if_neg h5, if_pos h6])
    have HNF := Lib.hid (nums_str (xs := [116]) (show Octets [116] by unfold Octets; decide))
    have GFF := Lib.hid (GFi.out (strOfNums [116]) (by rw [strOfNums_size]; decide))
    clear h0 h1 h2 h3 h4 h5 h6
    go_wp2_with fail
    refine GF.out.mono ?_
    intro e w4 hF
    unfold FormTo at hF
    rw [HN0.out, HF.out] at hF
    obtain ⟨rfl, rfl⟩ := hF
    go_wp2_with fail
    refine GFF.out.mono ?_
    rintro e w5 ⟨_, _, ok, ns, es, ⟨AN, nN, cN, rfl⟩, ⟨AT, nT, cT, rfl⟩, rfl, hbad, hgood, hb5⟩
    rw [HNF.out] at hbad hgood
    have hs5 : w.heap.size + 2 ≤ w5.heap.size := Nat.le_trans hs3 hb5.size
    have q2 := HQ2.out.below hb5 (by omega)
    have q4 := HQ4.out.below hb5 (by omega)
    have HB5 := Lib.hid (HB3.out.trans (hb5.mono HB3.out.size))
    have hs35 := hb5.size
    clear hb5
    cases ok with
    | false =>
      have HA := Lib.hid (show actL (numsOf s) = .error 3 by rw [HACT.out, HF.out]; simp only; rw [hbad rfl])
      have p2 := q2.alloc (.cells #[.slice AN nN cN, .slice AT nT cT] 92)
      have p4 := q4.alloc (.cells #[.slice AN nN cN, .slice AT nT cT] 92)
      have HBA := Lib.hid (HB5.out.alloc (by omega) (.cells #[.slice AN nN cN, .slice AT nT cT] 92))
      clear hbad hgood
      have y0 := p4.cell 0
      have y1 := p4.cell 1
      have y2 := p4.cell 2
      have y3 := p4.cell 3
      have y4 := p4.cell 4
      have y5 := p4.cell 5
      have x0 := p2.cell 0
      have x1 := p2.cell 1
      have x2 := p2.cell 2
      have x3 := p2.cell 3
      have x4 := p2.cell 4
      have x5 := p2.cell 5
      have xf := fun k => p2.frozen k
      simp only [List.getElem?_toArray, List.getElem?_cons_zero, List.getElem?_cons_succ] at x0 x1 x2 x3 x4 x5 y0 y1 y2 y3 y4 y5
      clear p2 p4 q2 q4
      go_wp2_with fail
      refine bodyPost_ret (v := .tuple #[actV zeroA (.slice none 0 0), .int .i64 3]) (by simp [results, Try.results36, go_sem, x0, x1, x2, x3, x4, x5, actV, zeroA]) rfl ?_
      unfold ActTo
      rw [HA.out]
      exact ⟨below6 HBA.out (Nat.le_refl _) _ _ _ _ _ _, rfl⟩
    | true =>
      obtain ⟨hfl, oN, oT⟩ := hgood rfl
      obtain ⟨t0, rfl, hts⟩ := fields_t hfl
      have HA := Lib.hid (show actL (numsOf s) = .ok (actOf 7 _ _) by rw [HACT.out, HF.out]; simp only; rw [hfl])
      clear hbad hgood hfl
      obtain ⟨u, rfl⟩ : ∃ u, es = [(u, t0)] := by
        match es, hts with
        | [(u, z)], h => exact ⟨u, by simp at h; rw [h]⟩
      obtain ⟨gT, rfl, hnT, hgT, cT0⟩ := row_cells oT.row (by simp)
      obtain rfl : nT = 1 := hnT
      have oU : Own w5 w3.heap.size 5 .u8 u t0 := oT.each (u, t0) (by simp)
      obtain ⟨AU, cU, rfl, _, _, _⟩ := oU.opened
      simp only [List.map_cons, List.map_nil, List.getElem_cons_zero] at cT0
      have hB57 := ((Below.refl w5.heap.size w5).alloc (Nat.le_refl _) (.cells #[.slice AN nN cN, .slice (some ⟨gT, 0, none⟩) 1 cT] 92)).alloc (by simp) (.cells #[.int .u8 7, .int .u8 0, .int .i64 0, .int .i64 0, .int .u64 0, .slice none 0 0] 40)
      have p9 := (Block.new w5 92 #[.slice AN nN cN, .slice (some ⟨gT, 0, none⟩) 1 cT]).alloc (.cells #[.int .u8 7, .int .u8 0, .int .i64 0, .int .i64 0, .int .u64 0, .slice none 0 0] 40)
      have p10 := Block.new (w5.alloc (.cells #[.slice AN nN cN, .slice (some ⟨gT, 0, none⟩) 1 cT] 92)) 40 #[.int .u8 7, .int .u8 0, .int .i64 0, .int .i64 0, .int .u64 0, .slice none 0 0]
      rw [show (w5.alloc (.cells #[.slice AN nN cN, .slice (some ⟨gT, 0, none⟩) 1 cT] 92)).heap.size = w5.heap.size + 1 by simp] at p10
      have hBF := ((Below.refl w5.heap.size w5).alloc (Nat.le_refl _) (.cells #[.slice AN nN cN, .slice (some ⟨gT, 0, none⟩) 1 cT] 92)).alloc (by simp) (.cells #[.int .u8 7, .int .u8 0, .int .i64 0, .int .i64 0, .int .u64 0, (.slice AU t0.length cU)] 40)
      have p2 := q2.below hBF (by omega)
      have HBF := Lib.hid (HB5.out.trans (hBF.mono HB5.out.size))
      have HTF := Lib.hid (turns6 (g := w.heap.size) (S := (· = w.heap.size)) (TurnsIn.ofNew hBF) rfl (.int .u8 7) (.int .u8 0) (.int .i64 0) (.int .i64 0) (.int .u64 0) ((.slice AU t0.length cU)))
      have HOU := Lib.hid (oU.mono (show w.heap.size ≤ w3.heap.size by omega))
      have HQ2B := Lib.hid q2
      have f0 := (hB57.cell (p := ⟨gT, 0, none⟩) hgT).trans cT0
      have hneT : ¬ gT = w5.heap.size + 1 := by omega
      have v0 := p9.cell 0
      have v1 := p9.cell 1
      have rr := fun k => p10.cell k
      have r0 := rr 0
      have r1 := rr 1
      have r2 := rr 2
      have r3 := rr 3
      have r4 := rr 4
      have r5 := rr 5
      have rf := fun k => p10.frozen k
      have x0 := p2.cell 0
      have x1 := p2.cell 1
      have x2 := p2.cell 2
      have x3 := p2.cell 3
      have x4 := p2.cell 4
      have x5 := p2.cell 5
      have xf := fun k => p2.frozen k
      simp only [List.getElem?_toArray, List.getElem?_cons_zero, List.getElem?_cons_succ] at x0 x1 x2 x3 x4 x5 v0 v1 r0 r1 r2 r3 r4 r5
      have hne2 : ¬ w.heap.size = w5.heap.size + 1 := by omega
      clear rr p2 p9 p10 q2 q4 hB57 hBF
      go_wp2_with fail
      refine bodyPost_ret (v := .tuple #[.agg #[.int .u8 7, .int .u8 0, .int .i64 0, .int .i64 0, .int .u64 0, (.slice AU t0.length cU)], .int .i64 0]) (by simp [results, Try.results36, go_sem, x0, x1, x2, x3, x4, x5]) rfl ?_
      unfold ActTo
      rw [HA.out]
      exact ⟨below6 HBF.out (Nat.le_refl _) _ _ _ _ _ _, (.slice AU t0.length cU), rfl, (HOU.out.out HTF.out (fun g hg he => by subst he; obtain ⟨cs, hcs⟩ := own_block HOU.out hg; exact absurd (block_type hcs HQ2B.out) (by decide)))⟩
  by_cases h7 : w0 = [115, 112, 111, 105, 108]
  · have HF := Lib.hid (show formL w0 = some ([110, 110, 98], 8) by unfold formL; rw [if_neg h0, if_neg h1, if_neg h2, if_neg h3, if_neg h4, if_neg h5, if_neg h6, if_pos h7])
    have HNF := Lib.hid (nums_str (xs := [110, 110, 98]) (show Octets [110, 110, 98] by unfold Octets; decide))
    have GFF := Lib.hid (GFi.out (strOfNums [110, 110, 98]) (by rw [strOfNums_size]; decide))
    clear h0 h1 h2 h3 h4 h5 h6 h7
    go_wp2_with fail
    refine GF.out.mono ?_
    intro e w4 hF
    unfold FormTo at hF
    rw [HN0.out, HF.out] at hF
    obtain ⟨rfl, rfl⟩ := hF
    go_wp2_with fail
    refine GFF.out.mono ?_
    rintro e w5 ⟨_, _, ok, ns, es, ⟨AN, nN, cN, rfl⟩, ⟨AT, nT, cT, rfl⟩, rfl, hbad, hgood, hb5⟩
    rw [HNF.out] at hbad hgood
    have hs5 : w.heap.size + 2 ≤ w5.heap.size := Nat.le_trans hs3 hb5.size
    have q2 := HQ2.out.below hb5 (by omega)
    have q4 := HQ4.out.below hb5 (by omega)
    have HB5 := Lib.hid (HB3.out.trans (hb5.mono HB3.out.size))
    have hs35 := hb5.size
    clear hb5
    cases ok with
    | false =>
      have HA := Lib.hid (show actL (numsOf s) = .error 3 by rw [HACT.out, HF.out]; simp only; rw [hbad rfl])
      have p2 := q2.alloc (.cells #[.slice AN nN cN, .slice AT nT cT] 92)
      have p4 := q4.alloc (.cells #[.slice AN nN cN, .slice AT nT cT] 92)
      have HBA := Lib.hid (HB5.out.alloc (by omega) (.cells #[.slice AN nN cN, .slice AT nT cT] 92))
      clear hbad hgood
      have y0 := p4.cell 0
      have y1 := p4.cell 1
      have y2 := p4.cell 2
      have y3 := p4.cell 3
      have y4 := p4.cell 4
      have y5 := p4.cell 5
      have x0 := p2.cell 0
      have x1 := p2.cell 1
      have x2 := p2.cell 2
      have x3 := p2.cell 3
      have x4 := p2.cell 4
      have x5 := p2.cell 5
      have xf := fun k => p2.frozen k
      simp only [List.getElem?_toArray, List.getElem?_cons_zero, List.getElem?_cons_succ] at x0 x1 x2 x3 x4 x5 y0 y1 y2 y3 y4 y5
      clear p2 p4 q2 q4
      go_wp2_with fail
      refine bodyPost_ret (v := .tuple #[actV zeroA (.slice none 0 0), .int .i64 3]) (by simp [results, Try.results36, go_sem, x0, x1, x2, x3, x4, x5, actV, zeroA]) rfl ?_
      unfold ActTo
      rw [HA.out]
      exact ⟨below6 HBA.out (Nat.le_refl _) _ _ _ _ _ _, rfl⟩
    | true =>
      obtain ⟨hfl, oN, oT⟩ := hgood rfl
      obtain ⟨a0, a1, a2, rfl, hts, la0, ha0, la1, ha1, la2, ha2⟩ := fields_nnb hfl
      have HA := Lib.hid (show actL (numsOf s) = .ok (actOf 8 _ _) by rw [HACT.out, HF.out]; simp only; rw [hfl])
      clear hbad hgood hfl
      obtain ⟨gN, rfl, hnN, hgN, cN0⟩ := own_cells oN (by simp)
      obtain rfl : nN = 3 := hnN
      have n0 := cN0 0 (by simp)
      have n1 := cN0 1 (by simp)
      have n2 := cN0 2 (by simp)
      simp only [List.getD_cons_zero, List.getD_cons_succ] at n0 n1 n2
      have hB57 := ((Below.refl w5.heap.size w5).alloc (Nat.le_refl _) (.cells #[.slice (some ⟨gN, 0, none⟩) 3 cN, .slice AT nT cT] 92)).alloc (by simp) (.cells #[.int .u8 8, .int .u8 0, .int .i64 0, .int .i64 0, .int .u64 0, .slice none 0 0] 40)
      have p9 := (Block.new w5 92 #[.slice (some ⟨gN, 0, none⟩) 3 cN, .slice AT nT cT]).alloc (.cells #[.int .u8 8, .int .u8 0, .int .i64 0, .int .i64 0, .int .u64 0, .slice none 0 0] 40)
      have p10 := Block.new (w5.alloc (.cells #[.slice (some ⟨gN, 0, none⟩) 3 cN, .slice AT nT cT] 92)) 40 #[.int .u8 8, .int .u8 0, .int .i64 0, .int .i64 0, .int .u64 0, .slice none 0 0]
      rw [show (w5.alloc (.cells #[.slice (some ⟨gN, 0, none⟩) 3 cN, .slice AT nT cT] 92)).heap.size = w5.heap.size + 1 by simp] at p10
      have hBF := ((Below.refl w5.heap.size w5).alloc (Nat.le_refl _) (.cells #[.slice (some ⟨gN, 0, none⟩) 3 cN, .slice AT nT cT] 92)).alloc (by simp) (.cells #[.int .u8 8, .int .u8 a2, .int .i64 a0, .int .i64 a1, .int .u64 0, (.slice none 0 0)] 40)
      have p2 := q2.below hBF (by omega)
      have HBF := Lib.hid (HB5.out.trans (hBF.mono HB5.out.size))
      have HTF := Lib.hid (turns6 (g := w.heap.size) (S := (· = w.heap.size)) (TurnsIn.ofNew hBF) rfl (.int .u8 8) (.int .u8 a2) (.int .i64 a0) (.int .i64 a1) (.int .u64 0) ((.slice none 0 0)))
      have m0 := (hB57.cell (p := ⟨gN, 0, none⟩) hgN).trans n0
      have m1 := (hB57.cell (p := ⟨gN, 1, none⟩) hgN).trans n1
      have m2 := (hB57.cell (p := ⟨gN, 2, none⟩) hgN).trans n2
      have hneN : ¬ gN = w5.heap.size + 1 := by omega
      have v0 := p9.cell 0
      have v1 := p9.cell 1
      have rr := fun k => p10.cell k
      have r0 := rr 0
      have r1 := rr 1
      have r2 := rr 2
      have r3 := rr 3
      have r4 := rr 4
      have r5 := rr 5
      have rf := fun k => p10.frozen k
      have x0 := p2.cell 0
      have x1 := p2.cell 1
      have x2 := p2.cell 2
      have x3 := p2.cell 3
      have x4 := p2.cell 4
      have x5 := p2.cell 5
      have xf := fun k => p2.frozen k
      simp only [List.getElem?_toArray, List.getElem?_cons_zero, List.getElem?_cons_succ] at x0 x1 x2 x3 x4 x5 v0 v1 r0 r1 r2 r3 r4 r5
      have hne2 : ¬ w.heap.size = w5.heap.size + 1 := by omega
      clear rr p2 p9 p10 q2 q4 hB57 hBF
      go_wp2_with fail
      refine bodyPost_ret (v := .tuple #[.agg #[.int .u8 8, .int .u8 a2, .int .i64 a0, .int .i64 a1, .int .u64 0, (.slice none 0 0)], .int .i64 0]) (by simp [results, Try.results36, go_sem, x0, x1, x2, x3, x4, x5]) rfl ?_
      unfold ActTo
      rw [HA.out]
      exact ⟨below6 HBF.out (Nat.le_refl _) _ _ _ _ _ _, (.slice none 0 0), rfl, Own.nil _ _ _ _⟩
  by_cases h8 : w0 = [105, 109, 97, 103, 101]
  · have HF := Lib.hid (show formL w0 = some ([], 9) by unfold formL; rw [if_neg h0, if_neg h1, if_neg h2, if_neg h3, if_neg h4, if_neg h5, if_neg h6, if_neg h7, if_pos h8])
    have HNF := Lib.hid (nums_str (xs := []) (show Octets [] by unfold Octets; decide))
    have GFF := Lib.hid (GFi.out (strOfNums []) (by rw [strOfNums_size]; decide))
    clear h0 h1 h2 h3 h4 h5 h6 h7 h8
    go_wp2_with fail
    refine GF.out.mono ?_
    intro e w4 hF
    unfold FormTo at hF
    rw [HN0.out, HF.out] at hF
    obtain ⟨rfl, rfl⟩ := hF
    go_wp2_with fail
    refine GFF.out.mono ?_
    rintro e w5 ⟨_, _, ok, ns, es, ⟨AN, nN, cN, rfl⟩, ⟨AT, nT, cT, rfl⟩, rfl, hbad, hgood, hb5⟩
    rw [HNF.out] at hbad hgood
    have hs5 : w.heap.size + 2 ≤ w5.heap.size := Nat.le_trans hs3 hb5.size
    have q2 := HQ2.out.below hb5 (by omega)
    have q4 := HQ4.out.below hb5 (by omega)
    have HB5 := Lib.hid (HB3.out.trans (hb5.mono HB3.out.size))
    have hs35 := hb5.size
    clear hb5
    cases ok with
    | false =>
      have HA := Lib.hid (show actL (numsOf s) = .error 3 by rw [HACT.out, HF.out]; simp only; rw [hbad rfl])
      have p2 := q2.alloc (.cells #[.slice AN nN cN, .slice AT nT cT] 92)
      have p4 := q4.alloc (.cells #[.slice AN nN cN, .slice AT nT cT] 92)
      have HBA := Lib.hid (HB5.out.alloc (by omega) (.cells #[.slice AN nN cN, .slice AT nT cT] 92))
      clear hbad hgood
      have y0 := p4.cell 0
      have y1 := p4.cell 1
      have y2 := p4.cell 2
      have y3 := p4.cell 3
      have y4 := p4.cell 4
      have y5 := p4.cell 5
      have x0 := p2.cell 0
      have x1 := p2.cell 1
      have x2 := p2.cell 2
      have x3 := p2.cell 3
      have x4 := p2.cell 4
      have x5 := p2.cell 5
      have xf := fun k => p2.frozen k
      simp only [List.getElem?_toArray, List.getElem?_cons_zero, List.getElem?_cons_succ] at x0 x1 x2 x3 x4 x5 y0 y1 y2 y3 y4 y5
      clear p2 p4 q2 q4
      go_wp2_with fail
      refine bodyPost_ret (v := .tuple #[actV zeroA (.slice none 0 0), .int .i64 3]) (by simp [results, Try.results36, go_sem, x0, x1, x2, x3, x4, x5, actV, zeroA]) rfl ?_
      unfold ActTo
      rw [HA.out]
      exact ⟨below6 HBA.out (Nat.le_refl _) _ _ _ _ _ _, rfl⟩
    | true =>
      obtain ⟨hfl, oN, oT⟩ := hgood rfl
      obtain ⟨rfl, hts⟩ := fields_no hfl
      have HA := Lib.hid (show actL (numsOf s) = .ok (actOf 9 _ _) by rw [HACT.out, HF.out]; simp only; rw [hfl])
      clear hbad hgood hfl
      have hB57 := ((Below.refl w5.heap.size w5).alloc (Nat.le_refl _) (.cells #[.slice AN nN cN, .slice AT nT cT] 92)).alloc (by simp) (.cells #[.int .u8 9, .int .u8 0, .int .i64 0, .int .i64 0, .int .u64 0, .slice none 0 0] 40)
      have p9 := (Block.new w5 92 #[.slice AN nN cN, .slice AT nT cT]).alloc (.cells #[.int .u8 9, .int .u8 0, .int .i64 0, .int .i64 0, .int .u64 0, .slice none 0 0] 40)
      have p10 := Block.new (w5.alloc (.cells #[.slice AN nN cN, .slice AT nT cT] 92)) 40 #[.int .u8 9, .int .u8 0, .int .i64 0, .int .i64 0, .int .u64 0, .slice none 0 0]
      rw [show (w5.alloc (.cells #[.slice AN nN cN, .slice AT nT cT] 92)).heap.size = w5.heap.size + 1 by simp] at p10
      have hBF := ((Below.refl w5.heap.size w5).alloc (Nat.le_refl _) (.cells #[.slice AN nN cN, .slice AT nT cT] 92)).alloc (by simp) (.cells #[.int .u8 9, .int .u8 0, .int .i64 0, .int .i64 0, .int .u64 0, (.slice none 0 0)] 40)
      have p2 := q2.below hBF (by omega)
      have HBF := Lib.hid (HB5.out.trans (hBF.mono HB5.out.size))
      have HTF := Lib.hid (turns6 (g := w.heap.size) (S := (· = w.heap.size)) (TurnsIn.ofNew hBF) rfl (.int .u8 9) (.int .u8 0) (.int .i64 0) (.int .i64 0) (.int .u64 0) ((.slice none 0 0)))
      have v0 := p9.cell 0
      have v1 := p9.cell 1
      have rr := fun k => p10.cell k
      have r0 := rr 0
      have r1 := rr 1
      have r2 := rr 2
      have r3 := rr 3
      have r4 := rr 4
      have r5 := rr 5
      have rf := fun k => p10.frozen k
      have x0 := p2.cell 0
      have x1 := p2.cell 1
      have x2 := p2.cell 2
      have x3 := p2.cell 3
      have x4 := p2.cell 4
      have x5 := p2.cell 5
      have xf := fun k => p2.frozen k
      simp only [List.getElem?_toArray, List.getElem?_cons_zero, List.getElem?_cons_succ] at x0 x1 x2 x3 x4 x5 v0 v1 r0 r1 r2 r3 r4 r5
      have hne2 : ¬ w.heap.size = w5.heap.size + 1 := by omega
      clear rr p2 p9 p10 q2 q4 hB57 hBF
      go_wp2_with fail
      refine bodyPost_ret (v := .tuple #[.agg #[.int .u8 9, .int .u8 0, .int .i64 0, .int .i64 0, .int .u64 0, (.slice none 0 0)], .int .i64 0]) (by simp [results, Try.results36, go_sem, x0, x1, x2, x3, x4, x5]) rfl ?_
      unfold ActTo
      rw [HA.out]
      exact ⟨below6 HBF.out (Nat.le_refl _) _ _ _ _ _ _, (.slice none 0 0), rfl, Own.nil _ _ _ _⟩
  by_cases h9 : w0 = [115, 116, 97, 116, 117, 115]
  · have HF := Lib.hid (show formL w0 = some ([], 10) by unfold formL; rw [if_neg h0, if_neg h1, if_neg h2, if_neg h3, if_neg h4, if_neg h5, if_neg h6, if_neg h7, if_neg h8, if_pos h9])
    have HNF := Lib.hid (nums_str (xs := []) (show Octets [] by unfold Octets; decide))
    have GFF := Lib.hid (GFi.out (strOfNums []) (by rw [strOfNums_size]; decide))
    clear h0 h1 h2 h3 h4 h5 h6 h7 h8 h9
    go_wp2_with fail
    refine GF.out.mono ?_
    intro e w4 hF
    unfold FormTo at hF
    rw [HN0.out, HF.out] at hF
    obtain ⟨rfl, rfl⟩ := hF
    go_wp2_with fail
    refine GFF.out.mono ?_
    rintro e w5 ⟨_, _, ok, ns, es, ⟨AN, nN, cN, rfl⟩, ⟨AT, nT, cT, rfl⟩, rfl, hbad, hgood, hb5⟩
    rw [HNF.out] at hbad hgood
    have hs5 : w.heap.size + 2 ≤ w5.heap.size := Nat.le_trans hs3 hb5.size
    have q2 := HQ2.out.below hb5 (by omega)
    have q4 := HQ4.out.below hb5 (by omega)
    have HB5 := Lib.hid (HB3.out.trans (hb5.mono HB3.out.size))
    have hs35 := hb5.size
    clear hb5
    cases ok with
    | false =>
      have HA := Lib.hid (show actL (numsOf s) = .error 3 by rw [HACT.out, HF.out]; simp only; rw [hbad rfl])
      have p2 := q2.alloc (.cells #[.slice AN nN cN, .slice AT nT cT] 92)
      have p4 := q4.alloc (.cells #[.slice AN nN cN, .slice AT nT cT] 92)
      have HBA := Lib.hid (HB5.out.alloc (by omega) (.cells #[.slice AN nN cN, .slice AT nT cT] 92))
      clear hbad hgood
      have y0 := p4.cell 0
      have y1 := p4.cell 1
      have y2 := p4.cell 2
      have y3 := p4.cell 3
      have y4 := p4.cell 4
      have y5 := p4.cell 5
      have x0 := p2.cell 0
      have x1 := p2.cell 1
      have x2 := p2.cell 2
      have x3 := p2.cell 3
      have x4 := p2.cell 4
      have x5 := p2.cell 5
      have xf := fun k => p2.frozen k
      simp only [List.getElem?_toArray, List.getElem?_cons_zero, List.getElem?_cons_succ] at x0 x1 x2 x3 x4 x5 y0 y1 y2 y3 y4 y5
      clear p2 p4 q2 q4
      go_wp2_with fail
      refine bodyPost_ret (v := .tuple #[actV zeroA (.slice none 0 0), .int .i64 3]) (by simp [results, Try.results36, go_sem, x0, x1, x2, x3, x4, x5, actV, zeroA]) rfl ?_
      unfold ActTo
      rw [HA.out]
      exact ⟨below6 HBA.out (Nat.le_refl _) _ _ _ _ _ _, rfl⟩
    | true =>
      obtain ⟨hfl, oN, oT⟩ := hgood rfl
      obtain ⟨rfl, hts⟩ := fields_no hfl
      have HA := Lib.hid (show actL (numsOf s) = .ok (actOf 10 _ _) by rw [HACT.out, HF.out]; simp only; rw [hfl])
      clear hbad hgood hfl
      have hB57 := ((Below.refl w5.heap.size w5).alloc (Nat.le_refl _) (.cells #[.slice AN nN cN, .slice AT nT cT] 92)).alloc (by simp) (.cells #[.int .u8 10, .int .u8 0, .int .i64 0, .int .i64 0, .int .u64 0, .slice none 0 0] 40)
      have p9 := (Block.new w5 92 #[.slice AN nN cN, .slice AT nT cT]).alloc (.cells #[.int .u8 10, .int .u8 0, .int .i64 0, .int .i64 0, .int .u64 0, .slice none 0 0] 40)
      have p10 := Block.new (w5.alloc (.cells #[.slice AN nN cN, .slice AT nT cT] 92)) 40 #[.int .u8 10, .int .u8 0, .int .i64 0, .int .i64 0, .int .u64 0, .slice none 0 0]
      rw [show (w5.alloc (.cells #[.slice AN nN cN, .slice AT nT cT] 92)).heap.size = w5.heap.size + 1 by simp] at p10
      have hBF := ((Below.refl w5.heap.size w5).alloc (Nat.le_refl _) (.cells #[.slice AN nN cN, .slice AT nT cT] 92)).alloc (by simp) (.cells #[.int .u8 10, .int .u8 0, .int .i64 0, .int .i64 0, .int .u64 0, (.slice none 0 0)] 40)
      have p2 := q2.below hBF (by omega)
      have HBF := Lib.hid (HB5.out.trans (hBF.mono HB5.out.size))
      have HTF := Lib.hid (turns6 (g := w.heap.size) (S := (· = w.heap.size)) (TurnsIn.ofNew hBF) rfl (.int .u8 10) (.int .u8 0) (.int .i64 0) (.int .i64 0) (.int .u64 0) ((.slice none 0 0)))
      have v0 := p9.cell 0
      have v1 := p9.cell 1
      have rr := fun k => p10.cell k
      have r0 := rr 0
      have r1 := rr 1
      have r2 := rr 2
      have r3 := rr 3
      have r4 := rr 4
      have r5 := rr 5
      have rf := fun k => p10.frozen k
      have x0 := p2.cell 0
      have x1 := p2.cell 1
      have x2 := p2.cell 2
      have x3 := p2.cell 3
      have x4 := p2.cell 4
      have x5 := p2.cell 5
      have xf := fun k => p2.frozen k
      simp only [List.getElem?_toArray, List.getElem?_cons_zero, List.getElem?_cons_succ] at x0 x1 x2 x3 x4 x5 v0 v1 r0 r1 r2 r3 r4 r5
      have hne2 : ¬ w.heap.size = w5.heap.size + 1 := by omega
      clear rr p2 p9 p10 q2 q4 hB57 hBF
      go_wp2_with fail
      refine bodyPost_ret (v := .tuple #[.agg #[.int .u8 10, .int .u8 0, .int .i64 0, .int .i64 0, .int .u64 0, (.slice none 0 0)], .int .i64 0]) (by simp [results, Try.results36, go_sem, x0, x1, x2, x3, x4, x5]) rfl ?_
      unfold ActTo
      rw [HA.out]
      exact ⟨below6 HBF.out (Nat.le_refl _) _ _ _ _ _ _, (.slice none 0 0), rfl, Own.nil _ _ _ _⟩
  have HF := Lib.hid (show formL w0 = none by unfold formL; rw [if_neg h0, if_neg h1, if_neg h2, if_neg h3, if_neg h4, if_neg h5, if_neg h6, if_neg h7, if_neg h8, if_neg h9])
  have HA := Lib.hid (show actL (numsOf s) = .error 21 by rw [HACT.out, HF.out])
  have y0 := HQ4.out.cell 0
  have y1 := HQ4.out.cell 1
  have y2 := HQ4.out.cell 2
  have y3 := HQ4.out.cell 3
  have y4 := HQ4.out.cell 4
  have y5 := HQ4.out.cell 5
  have x0 := HQ2.out.cell 0
  have x1 := HQ2.out.cell 1
  have x2 := HQ2.out.cell 2
  have x3 := HQ2.out.cell 3
  have x4 := HQ2.out.cell 4
  have x5 := HQ2.out.cell 5
  have xf := fun k => HQ2.out.frozen k
  simp only [List.getElem?_toArray, List.getElem?_cons_zero, List.getElem?_cons_succ] at x0 x1 x2 x3 x4 x5 y0 y1 y2 y3 y4 y5
  clear h0 h1 h2 h3 h4 h5 h6 h7 h8 h9
  go_wp2_with fail
  refine GF.out.mono ?_
  intro e w4 hF
  unfold FormTo at hF
  rw [HN0.out, HF.out] at hF
  obtain ⟨rfl, rfl⟩ := hF
  go_wp2_with fail
  refine bodyPost_ret (v := .tuple #[actV zeroA (.slice none 0 0), .int .i64 21]) (by simp [results, Try.results36, go_sem, x0, x1, x2, x3, x4, x5, actV, zeroA]) rfl ?_
  unfold ActTo
  rw [HA.out]
  exact ⟨below6 HB3.out (Nat.le_refl _) _ _ _ _ _ _, rfl⟩
end Go.Proofs.Ytngeemfcmoahoaa.Ty
