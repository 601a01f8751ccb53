/-
  Layer 30, a script's first line, as the program takes it: a contract. Conditions: as each theorem names.
-/
import Derived.Test.YtngeemfcmoahoaaTvF
import Derived.Test.YtngeemfcmoahoaaTvP
namespace Go.Proofs.Ytngeemfcmoahoaa.Tv
open Go.ChangeShapes Go.WideShapes Go.ChangeAt Go.RowKit Go.Proofs.Ytngeemfcmoahoaa.Kit Go.Proofs.Ytngeemfcmoahoaa.Tx Go.Proofs.Ytngeemfcmoahoaa.Ty Go.Proofs.Ytngeemfcmoahoaa.Tz

def okN (ws : List (List Int)) (t : Nat) : Prop := t < ws.length ∧ numB (ws.getD t []) 2147483647 = true
def okT (ws : List (List Int)) (t : Nat) : Prop := t < ws.length ∧ unB (ws.getD t []) = true
theorem world_yes {ws : List (List Int)} (h1 : okN ws 1) (h2 : okN ws 2) (h3 : okN ws 3) (h4 : okN ws 4) (h5 : okT ws 5) (h6 : okT ws 6) (h7 : ws.length ≤ 7) :
    fieldsL ws worldF = some ([valN (ws.getD 1 []), valN (ws.getD 2 []), valN (ws.getD 3 []), valN (ws.getD 4 [])], [unL (ws.getD 5 []), unL (ws.getD 6 [])]) := by
  have hl : ws.length = 7 := by have := h6.1; omega
  match ws, hl with
  | [a, b, c, d, e, f, g], _ =>
    have k1 : numB b 2147483647 = true := h1.2
    have k2 : numB c 2147483647 = true := h2.2
    have k3 : numB d 2147483647 = true := h3.2
    have k4 : numB e 2147483647 = true := h4.2
    have k5 : unB f = true := h5.2
    have k6 : unB g = true := h6.2
    simp [fieldsL, worldF, stepF, k1, k2, k3, k4, k5, k6]
theorem world_no {ws : List (List Int)} (h : ¬ okN ws 1 ∨ ¬ okN ws 2 ∨ ¬ okN ws 3 ∨ ¬ okN ws 4 ∨ ¬ okT ws 5 ∨ ¬ okT ws 6 ∨ 7 < ws.length) : fieldsL ws worldF = none := by
  by_cases hl : ws.length = 7
  · match ws, hl with
    | [a, b, c, d, e, f, g], _ =>
      have h' : ¬ numB b 2147483647 = true ∨ ¬ numB c 2147483647 = true ∨ ¬ numB d 2147483647 = true ∨ ¬ numB e 2147483647 = true ∨ ¬ unB f = true ∨ ¬ unB g = true := by
        simp only [okN, okT] at h
        simpa using h
      by_cases k1 : numB b 2147483647 = true
      · by_cases k2 : numB c 2147483647 = true
        · by_cases k3 : numB d 2147483647 = true
          · by_cases k4 : numB e 2147483647 = true
            · by_cases k5 : unB f = true
              · have k6 : ¬ unB g = true := by
                  rcases h' with h | h | h | h | h | h
                  · exact absurd k1 h
                  · exact absurd k2 h
                  · exact absurd k3 h
                  · exact absurd k4 h
                  · exact absurd k5 h
                  · exact h
                simp [fieldsL, worldF, stepF, k1, k2, k3, k4, k5, k6]
              · simp [fieldsL, worldF, stepF, k1, k2, k3, k4, k5]
            · simp [fieldsL, worldF, stepF, k1, k2, k3, k4]
          · simp [fieldsL, worldF, stepF, k1, k2, k3]
        · simp [fieldsL, worldF, stepF, k1, k2]
      · simp [fieldsL, worldF, stepF, k1]
  · unfold fieldsL
    rw [if_neg (by simpa [worldF] using hl)]

section
variable {g t : Nat} {ws : List (List Int)}
theorem num_ok (ho : ∀ v ∈ ws, Octets v ∧ v.length ≤ 1000000) (h7 : t < 7) (hk : okN ws t) (W : World) (h : WordsAt W g ws t) :
    Calls Try.prog 42 #[.pointer (some ⟨g, 0, none⟩), .int .i64 2147483647] W fun e w' => e = .returned (.int .i64 (valN (ws.getD t []))) ∧ Took W g t w' :=
  (number_any g t ws W 2147483647 h hk.1 h7 (by omega) (octets_mem ho t).2 (octets_mem ho t).1).mono fun e w' hh => ⟨by have := hh.1; rwa [if_pos hk.2] at this, hh.2⟩
theorem num_no (ho : ∀ v ∈ ws, Octets v ∧ v.length ≤ 1000000) (h7 : t < 7) (hk : ¬ okN ws t) (W : World) (h : WordsAt W g ws t) :
    Calls Try.prog 42 #[.pointer (some ⟨g, 0, none⟩), .int .i64 2147483647] W fun e w' => e = thrownF ∧ TurnsIn (fun b => b = g) W w' := by
  by_cases hs : t < ws.length
  · exact (number_any g t ws W 2147483647 h hs h7 (by omega) (octets_mem ho t).2 (octets_mem ho t).1).mono fun e w' hh => ⟨by have := hh.1; rwa [if_neg (fun hb => hk ⟨hs, hb⟩)] at this, took_turns hh.2⟩
  · refine (number_none g t ws W 2147483647 h (.inl (by omega))).mono ?_
    rintro e w' ⟨rfl, n, rfl⟩
    exact ⟨rfl, (TurnsIn.refl _ _).drewN n⟩
theorem txt_ok (ho : ∀ v ∈ ws, Octets v ∧ v.length ≤ 1000000) (h7 : t < 7) (hk : okT ws t) (W : World) (h : WordsAt W g ws t) :
    Calls Try.prog 43 #[.pointer (some ⟨g, 0, none⟩)] W fun e w' => ∃ A c, e = .returned (.slice A (unL (ws.getD t [])).length c) ∧ WordsAt w' g ws (t + 1) ∧ TurnsIn (fun b => b = g) W w' ∧ Own w' W.heap.size 5 .u8 (.slice A (unL (ws.getD t [])).length c) (unL (ws.getD t [])) := by
  refine (text_any g t ws W h hk.1 h7 (octets_mem ho t).2 (octets_mem ho t).1).mono ?_
  rintro e w' ⟨wt, h1, h2, h3⟩
  rw [if_pos hk.2] at h3
  obtain ⟨v, h4, h5⟩ := h3
  obtain ⟨A, c, rfl, _, _, _⟩ := h5.opened
  exact ⟨A, c, h4, Block.below (took_words h h1) h2 (took_words h h1).lt, (took_turns h1).trans (.ofNew h2), h5.mono (took_turns h1).size⟩
theorem txt_no (ho : ∀ v ∈ ws, Octets v ∧ v.length ≤ 1000000) (h7 : t < 7) (hk : ¬ okT ws t) (W : World) (h : WordsAt W g ws t) :
    Calls Try.prog 43 #[.pointer (some ⟨g, 0, none⟩)] W fun e w' => e = thrownF ∧ TurnsIn (fun b => b = g) W w' := by
  by_cases hs : t < ws.length
  · refine (text_any g t ws W h hs h7 (octets_mem ho t).2 (octets_mem ho t).1).mono ?_
    rintro e w' ⟨wt, h1, h2, h3⟩
    rw [if_neg (fun hb => hk ⟨hs, hb⟩)] at h3
    exact ⟨h3, (took_turns h1).trans (.ofNew h2)⟩
  · refine (text_none g t ws W h (.inl (by omega))).mono ?_
    rintro e w' ⟨rfl, n, rfl⟩
    exact ⟨rfl, (TurnsIn.refl _ _).drewN n⟩
end
def cellsP (b : Bool) (c0 c1 c2 : Int) (vs vi : Value) (v : Int) (va : Value) : Array Value := #[.bool b, .int .i64 c0, .int .i64 c1, .int .i64 c2, vs, vi, .int .u64 v, va]
def WorldQ (g gp : Nat) (ws : List (List Int)) (va : Value) (w : World) (e : Ending) (w' : World) : Prop :=
  TurnsIn (fun b => b = g ∨ b = gp) w w' ∧ match fieldsL ws worldF with
  | none => e = thrownF
  | some (ns, ts) => e = .returned (.tuple #[]) ∧ ∃ vs vi, Block w' gp 56 (cellsP true (ns.getD 0 0) (ns.getD 1 0) (ns.getD 2 0) vs vi (ns.getD 3 0) va) ∧ Own w' w.heap.size 5 .u8 vs (ts.getD 0 []) ∧ Own w' w.heap.size 5 .u8 vi (ts.getD 1 [])
theorem WorldQ.no {g gp : Nat} {ws : List (List Int)} {va : Value} {w w' : World} {e : Ending} (hf : fieldsL ws worldF = none) (he : e = thrownF) (ht : TurnsIn (fun b => b = g ∨ b = gp) w w') : WorldQ g gp ws va w e w' := by
  unfold WorldQ
  rw [hf]
  exact ⟨ht, he⟩

set_option maxRecDepth 100000 in
set_option maxHeartbeats 12800000 in
theorem world_any (g gp : Nat) (ws : List (List Int)) (b0 : Bool) (c0 c1 c2 v0 : Int) (As Ai Aa : Option Addr) (ns cs ni ci na ca : Nat) (w : World) (ho : ∀ v ∈ ws, Octets v ∧ v.length ≤ 1000000) (hne : g ≠ gp) (h : WordsAt w g ws 1)
    (hp : Block w gp 56 (cellsP b0 c0 c1 c2 (.slice As ns cs) (.slice Ai ni ci) v0 (.slice Aa na ca))) :
    Calls Try.prog 34 #[.pointer (some ⟨gp, 0, none⟩), .pointer (some ⟨g, 0, none⟩)] w (WorldQ g gp ws (.slice Aa na ca) w) := by
  have HO := Lib.hid ho
  have HWD := Lib.hid h
  have HBP := Lib.hid hp
  have HT := Lib.hid (TurnsIn.refl (fun b => b = g ∨ b = gp) w)
  have hng := Ne.symm hne
  clear ho h hp
  by_cases hk1 : okN ws 1
  case neg =>
    have HF := Lib.hid (world_no (ws := ws) (.inl hk1))
    go_enter Try.func34, Try.ntmps34
    go_wp2_with fail
    have hwd0 := HWD.out
    have hbp0 := HBP.out
    have htt0 := HT.out
    have G := num_no HO.out (t := 1) (by omega) hk1 _ hwd0
    unfold thrownF at G
    refine G.mono ?_
    rintro e w9 ⟨rfl, ht9⟩
    have HT9 := Lib.hid ht9
    have HTT := Lib.hid htt0
    clear ht9 G
    go_wp2_with fail
    exact ⟨rfl, WorldQ.no HF.out rfl (HTT.out.trans (HT9.out.mono fun b _ hb => .inl hb))⟩
  by_cases hk2 : okN ws 2
  case neg =>
    have HF := Lib.hid (world_no (ws := ws) (.inr (.inl hk2)))
    go_enter Try.func34, Try.ntmps34
    go_wp2_with fail
    have hwd0 := HWD.out
    have hbp0 := HBP.out
    have htt0 := HT.out
    refine (num_ok HO.out (t := 1) (by omega) hk1 _ hwd0).mono ?_
    rintro e w0 ⟨rfl, hk⟩
    have hw0 := took_words hwd0 hk
    have ht0 := took_turns hk
    clear hk
    obtain ⟨V1, hV1⟩ : ∃ V, valN (ws.getD 1 []) = V := ⟨_, rfl⟩
    rw [hV1]
    have HV1 := Lib.hid hV1
    clear hV1
    have hb0 := hbp0.out ht0 hng
    have hT0 := htt0.trans (ht0.mono fun b _ hb => .inl hb)
    have HW0 := Lib.hid hw0
    have HB0 := Lib.hid hb0
    have HTT0 := Lib.hid hT0
    clear hwd0 hbp0 htt0 hw0 hb0 ht0 hT0
    go_wp2_with fail
    have hwd1 := HW0.out
    have hbp1 := HB0.out
    have htt1 := HTT0.out
    have G := num_no HO.out (t := 2) (by omega) hk2 _ hwd1
    unfold thrownF at G
    refine G.mono ?_
    rintro e w9 ⟨rfl, ht9⟩
    have HT9 := Lib.hid ht9
    have HTT := Lib.hid htt1
    clear ht9 G
    go_wp2_with fail
    exact ⟨rfl, WorldQ.no HF.out rfl (HTT.out.trans (HT9.out.mono fun b _ hb => .inl hb))⟩
  by_cases hk3 : okN ws 3
  case neg =>
    have HF := Lib.hid (world_no (ws := ws) (.inr (.inr (.inl hk3))))
    go_enter Try.func34, Try.ntmps34
    go_wp2_with fail
    have hwd0 := HWD.out
    have hbp0 := HBP.out
    have htt0 := HT.out
    refine (num_ok HO.out (t := 1) (by omega) hk1 _ hwd0).mono ?_
    rintro e w0 ⟨rfl, hk⟩
    have hw0 := took_words hwd0 hk
    have ht0 := took_turns hk
    clear hk
    obtain ⟨V1, hV1⟩ : ∃ V, valN (ws.getD 1 []) = V := ⟨_, rfl⟩
    rw [hV1]
    have HV1 := Lib.hid hV1
    clear hV1
    have hb0 := hbp0.out ht0 hng
    have hT0 := htt0.trans (ht0.mono fun b _ hb => .inl hb)
    have HW0 := Lib.hid hw0
    have HB0 := Lib.hid hb0
    have HTT0 := Lib.hid hT0
    clear hwd0 hbp0 htt0 hw0 hb0 ht0 hT0
    go_wp2_with fail
    have hwd1 := HW0.out
    have hbp1 := HB0.out
    have htt1 := HTT0.out
    refine (num_ok HO.out (t := 2) (by omega) hk2 _ hwd1).mono ?_
    rintro e w1 ⟨rfl, hk⟩
    have hw1 := took_words hwd1 hk
    have ht1 := took_turns hk
    clear hk
    obtain ⟨V2, hV2⟩ : ∃ V, valN (ws.getD 2 []) = V := ⟨_, rfl⟩
    rw [hV2]
    have HV2 := Lib.hid hV2
    clear hV2
    have hb1 := hbp1.out ht1 hng
    have hT1 := htt1.trans (ht1.mono fun b _ hb => .inl hb)
    have HW1 := Lib.hid hw1
    have HB1 := Lib.hid hb1
    have HTT1 := Lib.hid hT1
    clear hwd1 hbp1 htt1 hw1 hb1 ht1 hT1
    go_wp2_with fail
    have hwd2 := HW1.out
    have hbp2 := HB1.out
    have htt2 := HTT1.out
    have G := num_no HO.out (t := 3) (by omega) hk3 _ hwd2
    unfold thrownF at G
    refine G.mono ?_
    rintro e w9 ⟨rfl, ht9⟩
    have HT9 := Lib.hid ht9
    have HTT := Lib.hid htt2
    clear ht9 G
    go_wp2_with fail
    exact ⟨rfl, WorldQ.no HF.out rfl (HTT.out.trans (HT9.out.mono fun b _ hb => .inl hb))⟩
  by_cases hk4 : okN ws 4
  case neg =>
    have HF := Lib.hid (world_no (ws := ws) (.inr (.inr (.inr (.inl hk4)))))
    go_enter Try.func34, Try.ntmps34
    go_wp2_with fail
    have hwd0 := HWD.out
    have hbp0 := HBP.out
    have htt0 := HT.out
    refine (num_ok HO.out (t := 1) (by omega) hk1 _ hwd0).mono ?_
    rintro e w0 ⟨rfl, hk⟩
    have hw0 := took_words hwd0 hk
    have ht0 := took_turns hk
    clear hk
    obtain ⟨V1, hV1⟩ : ∃ V, valN (ws.getD 1 []) = V := ⟨_, rfl⟩
    rw [hV1]
    have HV1 := Lib.hid hV1
    clear hV1
    have hb0 := hbp0.out ht0 hng
    have hT0 := htt0.trans (ht0.mono fun b _ hb => .inl hb)
    have HW0 := Lib.hid hw0
    have HB0 := Lib.hid hb0
    have HTT0 := Lib.hid hT0
    clear hwd0 hbp0 htt0 hw0 hb0 ht0 hT0
    go_wp2_with fail
    have hwd1 := HW0.out
    have hbp1 := HB0.out
    have htt1 := HTT0.out
    refine (num_ok HO.out (t := 2) (by omega) hk2 _ hwd1).mono ?_
    rintro e w1 ⟨rfl, hk⟩
    have hw1 := took_words hwd1 hk
    have ht1 := took_turns hk
    clear hk
    obtain ⟨V2, hV2⟩ : ∃ V, valN (ws.getD 2 []) = V := ⟨_, rfl⟩
    rw [hV2]
    have HV2 := Lib.hid hV2
    clear hV2
    have hb1 := hbp1.out ht1 hng
    have hT1 := htt1.trans (ht1.mono fun b _ hb => .inl hb)
    have HW1 := Lib.hid hw1
    have HB1 := Lib.hid hb1
    have HTT1 := Lib.hid hT1
    clear hwd1 hbp1 htt1 hw1 hb1 ht1 hT1
    go_wp2_with fail
    have hwd2 := HW1.out
    have hbp2 := HB1.out
    have htt2 := HTT1.out
    refine (num_ok HO.out (t := 3) (by omega) hk3 _ hwd2).mono ?_
    rintro e w2 ⟨rfl, hk⟩
    have hw2 := took_words hwd2 hk
    have ht2 := took_turns hk
    clear hk
    obtain ⟨V3, hV3⟩ : ∃ V, valN (ws.getD 3 []) = V := ⟨_, rfl⟩
    rw [hV3]
    have HV3 := Lib.hid hV3
    clear hV3
    have hb2 := hbp2.out ht2 hng
    have hT2 := htt2.trans (ht2.mono fun b _ hb => .inl hb)
    have HW2 := Lib.hid hw2
    have HB2 := Lib.hid hb2
    have HTT2 := Lib.hid hT2
    have x1 := hb2.cell 1
    have z1 := hb2.frozen 1
    have x2 := hb2.cell 2
    have z2 := hb2.frozen 2
    have x3 := hb2.cell 3
    have z3 := hb2.frozen 3
    unfold cellsP at x1 x2 x3
    simp at x1 x2 x3
    clear hwd2 hbp2 htt2 hw2 hb2 ht2 hT2
    go_wp2_with fail
    clear x1 z1 x2 z2 x3 z3
    have hwd3 := (Block.far (Block.far (Block.far HW2.out (p := ⟨gp, 1, none⟩) hne (.int .i64 V1)) (p := ⟨gp, 2, none⟩) hne (.int .i64 V2)) (p := ⟨gp, 3, none⟩) hne (.int .i64 V3))
    have hbp3 := (((HB2.out.set_ 1 (.int .i64 V1)).set_ 2 (.int .i64 V2)).set_ 3 (.int .i64 V3))
    have htt3 := (((HTT2.out.setCell (p := ⟨gp, 1, none⟩) (.inl (.inr rfl)) (.int .i64 V1)).setCell (p := ⟨gp, 2, none⟩) (.inl (.inr rfl)) (.int .i64 V2)).setCell (p := ⟨gp, 3, none⟩) (.inl (.inr rfl)) (.int .i64 V3))
    have G := num_no HO.out (t := 4) (by omega) hk4 _ hwd3
    unfold thrownF at G
    refine G.mono ?_
    rintro e w9 ⟨rfl, ht9⟩
    have HT9 := Lib.hid ht9
    have HTT := Lib.hid htt3
    clear ht9 G
    go_wp2_with fail
    exact ⟨rfl, WorldQ.no HF.out rfl (HTT.out.trans (HT9.out.mono fun b _ hb => .inl hb))⟩
  by_cases hk5 : okT ws 5
  case neg =>
    have HF := Lib.hid (world_no (ws := ws) (.inr (.inr (.inr (.inr (.inl hk5))))))
    go_enter Try.func34, Try.ntmps34
    go_wp2_with fail
    have hwd0 := HWD.out
    have hbp0 := HBP.out
    have htt0 := HT.out
    refine (num_ok HO.out (t := 1) (by omega) hk1 _ hwd0).mono ?_
    rintro e w0 ⟨rfl, hk⟩
    have hw0 := took_words hwd0 hk
    have ht0 := took_turns hk
    clear hk
    obtain ⟨V1, hV1⟩ : ∃ V, valN (ws.getD 1 []) = V := ⟨_, rfl⟩
    rw [hV1]
    have HV1 := Lib.hid hV1
    clear hV1
    have hb0 := hbp0.out ht0 hng
    have hT0 := htt0.trans (ht0.mono fun b _ hb => .inl hb)
    have HW0 := Lib.hid hw0
    have HB0 := Lib.hid hb0
    have HTT0 := Lib.hid hT0
    clear hwd0 hbp0 htt0 hw0 hb0 ht0 hT0
    go_wp2_with fail
    have hwd1 := HW0.out
    have hbp1 := HB0.out
    have htt1 := HTT0.out
    refine (num_ok HO.out (t := 2) (by omega) hk2 _ hwd1).mono ?_
    rintro e w1 ⟨rfl, hk⟩
    have hw1 := took_words hwd1 hk
    have ht1 := took_turns hk
    clear hk
    obtain ⟨V2, hV2⟩ : ∃ V, valN (ws.getD 2 []) = V := ⟨_, rfl⟩
    rw [hV2]
    have HV2 := Lib.hid hV2
    clear hV2
    have hb1 := hbp1.out ht1 hng
    have hT1 := htt1.trans (ht1.mono fun b _ hb => .inl hb)
    have HW1 := Lib.hid hw1
    have HB1 := Lib.hid hb1
    have HTT1 := Lib.hid hT1
    clear hwd1 hbp1 htt1 hw1 hb1 ht1 hT1
    go_wp2_with fail
    have hwd2 := HW1.out
    have hbp2 := HB1.out
    have htt2 := HTT1.out
    refine (num_ok HO.out (t := 3) (by omega) hk3 _ hwd2).mono ?_
    rintro e w2 ⟨rfl, hk⟩
    have hw2 := took_words hwd2 hk
    have ht2 := took_turns hk
    clear hk
    obtain ⟨V3, hV3⟩ : ∃ V, valN (ws.getD 3 []) = V := ⟨_, rfl⟩
    rw [hV3]
    have HV3 := Lib.hid hV3
    clear hV3
    have hb2 := hbp2.out ht2 hng
    have hT2 := htt2.trans (ht2.mono fun b _ hb => .inl hb)
    have HW2 := Lib.hid hw2
    have HB2 := Lib.hid hb2
    have HTT2 := Lib.hid hT2
    have x1 := hb2.cell 1
    have z1 := hb2.frozen 1
    have x2 := hb2.cell 2
    have z2 := hb2.frozen 2
    have x3 := hb2.cell 3
    have z3 := hb2.frozen 3
    unfold cellsP at x1 x2 x3
    simp at x1 x2 x3
    clear hwd2 hbp2 htt2 hw2 hb2 ht2 hT2
    go_wp2_with fail
    clear x1 z1 x2 z2 x3 z3
    have hwd3 := (Block.far (Block.far (Block.far HW2.out (p := ⟨gp, 1, none⟩) hne (.int .i64 V1)) (p := ⟨gp, 2, none⟩) hne (.int .i64 V2)) (p := ⟨gp, 3, none⟩) hne (.int .i64 V3))
    have hbp3 := (((HB2.out.set_ 1 (.int .i64 V1)).set_ 2 (.int .i64 V2)).set_ 3 (.int .i64 V3))
    have htt3 := (((HTT2.out.setCell (p := ⟨gp, 1, none⟩) (.inl (.inr rfl)) (.int .i64 V1)).setCell (p := ⟨gp, 2, none⟩) (.inl (.inr rfl)) (.int .i64 V2)).setCell (p := ⟨gp, 3, none⟩) (.inl (.inr rfl)) (.int .i64 V3))
    refine (num_ok HO.out (t := 4) (by omega) hk4 _ hwd3).mono ?_
    rintro e w3 ⟨rfl, hk⟩
    have hw3 := took_words hwd3 hk
    have ht3 := took_turns hk
    clear hk
    obtain ⟨V4, hV4⟩ : ∃ V, valN (ws.getD 4 []) = V := ⟨_, rfl⟩
    rw [hV4]
    have HV4 := Lib.hid hV4
    clear hV4
    have hvb := numB_le hk4.2
    rw [HV4.out] at hvb
    have hw8 : IntKind.u64.wrap V4 = V4 := by rw [IntKind.wrap_u64]; omega
    have hb3 := hbp3.out ht3 hng
    have hT3 := htt3.trans (ht3.mono fun b _ hb => .inl hb)
    have HW3 := Lib.hid hw3
    have HB3 := Lib.hid hb3
    have HTT3 := Lib.hid hT3
    have x6 := hb3.cell 6
    have z6 := hb3.frozen 6
    unfold cellsP at x6
    simp at x6
    clear hwd3 hbp3 htt3 hw3 hb3 ht3 hT3
    go_wp2_with fail
    clear x6 z6
    have hwd4 := (Block.far HW3.out (p := ⟨gp, 6, none⟩) hne (.int .u64 V4))
    have hbp4 := (HB3.out.set_ 6 (.int .u64 V4))
    have htt4 := (HTT3.out.setCell (p := ⟨gp, 6, none⟩) (.inl (.inr rfl)) (.int .u64 V4))
    have G := txt_no HO.out (t := 5) (by omega) hk5 _ hwd4
    unfold thrownF at G
    refine G.mono ?_
    rintro e w9 ⟨rfl, ht9⟩
    have HT9 := Lib.hid ht9
    have HTT := Lib.hid htt4
    clear ht9 G
    go_wp2_with fail
    exact ⟨rfl, WorldQ.no HF.out rfl (HTT.out.trans (HT9.out.mono fun b _ hb => .inl hb))⟩
  by_cases hk6 : okT ws 6
  case neg =>
    have HF := Lib.hid (world_no (ws := ws) (.inr (.inr (.inr (.inr (.inr (.inl hk6)))))))
    go_enter Try.func34, Try.ntmps34
    go_wp2_with fail
    have hwd0 := HWD.out
    have hbp0 := HBP.out
    have htt0 := HT.out
    refine (num_ok HO.out (t := 1) (by omega) hk1 _ hwd0).mono ?_
    rintro e w0 ⟨rfl, hk⟩
    have hw0 := took_words hwd0 hk
    have ht0 := took_turns hk
    clear hk
    obtain ⟨V1, hV1⟩ : ∃ V, valN (ws.getD 1 []) = V := ⟨_, rfl⟩
    rw [hV1]
    have HV1 := Lib.hid hV1
    clear hV1
    have hb0 := hbp0.out ht0 hng
    have hT0 := htt0.trans (ht0.mono fun b _ hb => .inl hb)
    have HW0 := Lib.hid hw0
    have HB0 := Lib.hid hb0
    have HTT0 := Lib.hid hT0
    clear hwd0 hbp0 htt0 hw0 hb0 ht0 hT0
    go_wp2_with fail
    have hwd1 := HW0.out
    have hbp1 := HB0.out
    have htt1 := HTT0.out
    refine (num_ok HO.out (t := 2) (by omega) hk2 _ hwd1).mono ?_
    rintro e w1 ⟨rfl, hk⟩
    have hw1 := took_words hwd1 hk
    have ht1 := took_turns hk
    clear hk
    obtain ⟨V2, hV2⟩ : ∃ V, valN (ws.getD 2 []) = V := ⟨_, rfl⟩
    rw [hV2]
    have HV2 := Lib.hid hV2
    clear hV2
    have hb1 := hbp1.out ht1 hng
    have hT1 := htt1.trans (ht1.mono fun b _ hb => .inl hb)
    have HW1 := Lib.hid hw1
    have HB1 := Lib.hid hb1
    have HTT1 := Lib.hid hT1
    clear hwd1 hbp1 htt1 hw1 hb1 ht1 hT1
    go_wp2_with fail
    have hwd2 := HW1.out
    have hbp2 := HB1.out
    have htt2 := HTT1.out
    refine (num_ok HO.out (t := 3) (by omega) hk3 _ hwd2).mono ?_
    rintro e w2 ⟨rfl, hk⟩
    have hw2 := took_words hwd2 hk
    have ht2 := took_turns hk
    clear hk
    obtain ⟨V3, hV3⟩ : ∃ V, valN (ws.getD 3 []) = V := ⟨_, rfl⟩
    rw [hV3]
    have HV3 := Lib.hid hV3
    clear hV3
    have hb2 := hbp2.out ht2 hng
    have hT2 := htt2.trans (ht2.mono fun b _ hb => .inl hb)
    have HW2 := Lib.hid hw2
    have HB2 := Lib.hid hb2
    have HTT2 := Lib.hid hT2
    have x1 := hb2.cell 1
    have z1 := hb2.frozen 1
    have x2 := hb2.cell 2
    have z2 := hb2.frozen 2
    have x3 := hb2.cell 3
    have z3 := hb2.frozen 3
    unfold cellsP at x1 x2 x3
    simp at x1 x2 x3
    clear hwd2 hbp2 htt2 hw2 hb2 ht2 hT2
    go_wp2_with fail
    clear x1 z1 x2 z2 x3 z3
    have hwd3 := (Block.far (Block.far (Block.far HW2.out (p := ⟨gp, 1, none⟩) hne (.int .i64 V1)) (p := ⟨gp, 2, none⟩) hne (.int .i64 V2)) (p := ⟨gp, 3, none⟩) hne (.int .i64 V3))
    have hbp3 := (((HB2.out.set_ 1 (.int .i64 V1)).set_ 2 (.int .i64 V2)).set_ 3 (.int .i64 V3))
    have htt3 := (((HTT2.out.setCell (p := ⟨gp, 1, none⟩) (.inl (.inr rfl)) (.int .i64 V1)).setCell (p := ⟨gp, 2, none⟩) (.inl (.inr rfl)) (.int .i64 V2)).setCell (p := ⟨gp, 3, none⟩) (.inl (.inr rfl)) (.int .i64 V3))
    refine (num_ok HO.out (t := 4) (by omega) hk4 _ hwd3).mono ?_
    rintro e w3 ⟨rfl, hk⟩
    have hw3 := took_words hwd3 hk
    have ht3 := took_turns hk
    clear hk
    obtain ⟨V4, hV4⟩ : ∃ V, valN (ws.getD 4 []) = V := ⟨_, rfl⟩
    rw [hV4]
    have HV4 := Lib.hid hV4
    clear hV4
    have hvb := numB_le hk4.2
    rw [HV4.out] at hvb
    have hw8 : IntKind.u64.wrap V4 = V4 := by rw [IntKind.wrap_u64]; omega
    have hb3 := hbp3.out ht3 hng
    have hT3 := htt3.trans (ht3.mono fun b _ hb => .inl hb)
    have HW3 := Lib.hid hw3
    have HB3 := Lib.hid hb3
    have HTT3 := Lib.hid hT3
    have x6 := hb3.cell 6
    have z6 := hb3.frozen 6
    unfold cellsP at x6
    simp at x6
    clear hwd3 hbp3 htt3 hw3 hb3 ht3 hT3
    go_wp2_with fail
    clear x6 z6
    have hwd4 := (Block.far HW3.out (p := ⟨gp, 6, none⟩) hne (.int .u64 V4))
    have hbp4 := (HB3.out.set_ 6 (.int .u64 V4))
    have htt4 := (HTT3.out.setCell (p := ⟨gp, 6, none⟩) (.inl (.inr rfl)) (.int .u64 V4))
    refine (txt_ok HO.out (t := 5) (by omega) hk5 _ hwd4).mono ?_
    rintro e w4 ⟨A5, a5, rfl, hw4, ht4, ho5⟩
    obtain ⟨n5, hn5⟩ : ∃ n, (unL (ws.getD 5 [])).length = n := ⟨_, rfl⟩
    rw [hn5] at ho5 ⊢
    have HN5 := Lib.hid hn5
    clear hn5
    have HO5 := Lib.hid (ho5.mono htt4.size)
    have HTa5 := Lib.hid ht4
    clear ho5
    have hb4 := hbp4.out ht4 hng
    have hT4 := htt4.trans (ht4.mono fun b _ hb => .inl hb)
    have HW4 := Lib.hid hw4
    have HB4 := Lib.hid hb4
    have HTT4 := Lib.hid hT4
    have x4 := hb4.cell 4
    have z4 := hb4.frozen 4
    unfold cellsP at x4
    simp at x4
    clear hwd4 hbp4 htt4 hw4 hb4 ht4 hT4
    go_wp2_with fail
    clear x4 z4
    have hwd5 := (Block.far HW4.out (p := ⟨gp, 4, none⟩) hne (.slice A5 n5 a5))
    have hbp5 := (HB4.out.set_ 4 (.slice A5 n5 a5))
    have htt5 := (HTT4.out.setCell (p := ⟨gp, 4, none⟩) (.inl (.inr rfl)) (.slice A5 n5 a5))
    have G := txt_no HO.out (t := 6) (by omega) hk6 _ hwd5
    unfold thrownF at G
    refine G.mono ?_
    rintro e w9 ⟨rfl, ht9⟩
    have HT9 := Lib.hid ht9
    have HTT := Lib.hid htt5
    clear ht9 G
    go_wp2_with fail
    exact ⟨rfl, WorldQ.no HF.out rfl (HTT.out.trans (HT9.out.mono fun b _ hb => .inl hb))⟩
  by_cases hk7 : ws.length ≤ 7
  case neg =>
    have HF := Lib.hid (world_no (ws := ws) (.inr (.inr (.inr (.inr (.inr (.inr (by omega))))))))
    have hk7 : 7 < ws.length := by omega
    go_enter Try.func34, Try.ntmps34
    go_wp2_with fail
    have hwd0 := HWD.out
    have hbp0 := HBP.out
    have htt0 := HT.out
    refine (num_ok HO.out (t := 1) (by omega) hk1 _ hwd0).mono ?_
    rintro e w0 ⟨rfl, hk⟩
    have hw0 := took_words hwd0 hk
    have ht0 := took_turns hk
    clear hk
    obtain ⟨V1, hV1⟩ : ∃ V, valN (ws.getD 1 []) = V := ⟨_, rfl⟩
    rw [hV1]
    have HV1 := Lib.hid hV1
    clear hV1
    have hb0 := hbp0.out ht0 hng
    have hT0 := htt0.trans (ht0.mono fun b _ hb => .inl hb)
    have HW0 := Lib.hid hw0
    have HB0 := Lib.hid hb0
    have HTT0 := Lib.hid hT0
    clear hwd0 hbp0 htt0 hw0 hb0 ht0 hT0
    go_wp2_with fail
    have hwd1 := HW0.out
    have hbp1 := HB0.out
    have htt1 := HTT0.out
    refine (num_ok HO.out (t := 2) (by omega) hk2 _ hwd1).mono ?_
    rintro e w1 ⟨rfl, hk⟩
    have hw1 := took_words hwd1 hk
    have ht1 := took_turns hk
    clear hk
    obtain ⟨V2, hV2⟩ : ∃ V, valN (ws.getD 2 []) = V := ⟨_, rfl⟩
    rw [hV2]
    have HV2 := Lib.hid hV2
    clear hV2
    have hb1 := hbp1.out ht1 hng
    have hT1 := htt1.trans (ht1.mono fun b _ hb => .inl hb)
    have HW1 := Lib.hid hw1
    have HB1 := Lib.hid hb1
    have HTT1 := Lib.hid hT1
    clear hwd1 hbp1 htt1 hw1 hb1 ht1 hT1
    go_wp2_with fail
    have hwd2 := HW1.out
    have hbp2 := HB1.out
    have htt2 := HTT1.out
    refine (num_ok HO.out (t := 3) (by omega) hk3 _ hwd2).mono ?_
    rintro e w2 ⟨rfl, hk⟩
    have hw2 := took_words hwd2 hk
    have ht2 := took_turns hk
    clear hk
    obtain ⟨V3, hV3⟩ : ∃ V, valN (ws.getD 3 []) = V := ⟨_, rfl⟩
    rw [hV3]
    have HV3 := Lib.hid hV3
    clear hV3
    have hb2 := hbp2.out ht2 hng
    have hT2 := htt2.trans (ht2.mono fun b _ hb => .inl hb)
    have HW2 := Lib.hid hw2
    have HB2 := Lib.hid hb2
    have HTT2 := Lib.hid hT2
    have x1 := hb2.cell 1
    have z1 := hb2.frozen 1
    have x2 := hb2.cell 2
    have z2 := hb2.frozen 2
    have x3 := hb2.cell 3
    have z3 := hb2.frozen 3
    unfold cellsP at x1 x2 x3
    simp at x1 x2 x3
    clear hwd2 hbp2 htt2 hw2 hb2 ht2 hT2
    go_wp2_with fail
    clear x1 z1 x2 z2 x3 z3
    have hwd3 := (Block.far (Block.far (Block.far HW2.out (p := ⟨gp, 1, none⟩) hne (.int .i64 V1)) (p := ⟨gp, 2, none⟩) hne (.int .i64 V2)) (p := ⟨gp, 3, none⟩) hne (.int .i64 V3))
    have hbp3 := (((HB2.out.set_ 1 (.int .i64 V1)).set_ 2 (.int .i64 V2)).set_ 3 (.int .i64 V3))
    have htt3 := (((HTT2.out.setCell (p := ⟨gp, 1, none⟩) (.inl (.inr rfl)) (.int .i64 V1)).setCell (p := ⟨gp, 2, none⟩) (.inl (.inr rfl)) (.int .i64 V2)).setCell (p := ⟨gp, 3, none⟩) (.inl (.inr rfl)) (.int .i64 V3))
    refine (num_ok HO.out (t := 4) (by omega) hk4 _ hwd3).mono ?_
    rintro e w3 ⟨rfl, hk⟩
    have hw3 := took_words hwd3 hk
    have ht3 := took_turns hk
    clear hk
    obtain ⟨V4, hV4⟩ : ∃ V, valN (ws.getD 4 []) = V := ⟨_, rfl⟩
    rw [hV4]
    have HV4 := Lib.hid hV4
    clear hV4
    have hvb := numB_le hk4.2
    rw [HV4.out] at hvb
    have hw8 : IntKind.u64.wrap V4 = V4 := by rw [IntKind.wrap_u64]; omega
    have hb3 := hbp3.out ht3 hng
    have hT3 := htt3.trans (ht3.mono fun b _ hb => .inl hb)
    have HW3 := Lib.hid hw3
    have HB3 := Lib.hid hb3
    have HTT3 := Lib.hid hT3
    have x6 := hb3.cell 6
    have z6 := hb3.frozen 6
    unfold cellsP at x6
    simp at x6
    clear hwd3 hbp3 htt3 hw3 hb3 ht3 hT3
    go_wp2_with fail
    clear x6 z6
    have hwd4 := (Block.far HW3.out (p := ⟨gp, 6, none⟩) hne (.int .u64 V4))
    have hbp4 := (HB3.out.set_ 6 (.int .u64 V4))
    have htt4 := (HTT3.out.setCell (p := ⟨gp, 6, none⟩) (.inl (.inr rfl)) (.int .u64 V4))
    refine (txt_ok HO.out (t := 5) (by omega) hk5 _ hwd4).mono ?_
    rintro e w4 ⟨A5, a5, rfl, hw4, ht4, ho5⟩
    obtain ⟨n5, hn5⟩ : ∃ n, (unL (ws.getD 5 [])).length = n := ⟨_, rfl⟩
    rw [hn5] at ho5 ⊢
    have HN5 := Lib.hid hn5
    clear hn5
    have HO5 := Lib.hid (ho5.mono htt4.size)
    have HTa5 := Lib.hid ht4
    clear ho5
    have hb4 := hbp4.out ht4 hng
    have hT4 := htt4.trans (ht4.mono fun b _ hb => .inl hb)
    have HW4 := Lib.hid hw4
    have HB4 := Lib.hid hb4
    have HTT4 := Lib.hid hT4
    have x4 := hb4.cell 4
    have z4 := hb4.frozen 4
    unfold cellsP at x4
    simp at x4
    clear hwd4 hbp4 htt4 hw4 hb4 ht4 hT4
    go_wp2_with fail
    clear x4 z4
    have hwd5 := (Block.far HW4.out (p := ⟨gp, 4, none⟩) hne (.slice A5 n5 a5))
    have hbp5 := (HB4.out.set_ 4 (.slice A5 n5 a5))
    have htt5 := (HTT4.out.setCell (p := ⟨gp, 4, none⟩) (.inl (.inr rfl)) (.slice A5 n5 a5))
    refine (txt_ok HO.out (t := 6) (by omega) hk6 _ hwd5).mono ?_
    rintro e w5 ⟨A6, a6, rfl, hw5, ht5, ho6⟩
    obtain ⟨n6, hn6⟩ : ∃ n, (unL (ws.getD 6 [])).length = n := ⟨_, rfl⟩
    rw [hn6] at ho6 ⊢
    have HN6 := Lib.hid hn6
    clear hn6
    have HO6 := Lib.hid (ho6.mono htt5.size)
    have HTa6 := Lib.hid ht5
    clear ho6
    have hb5 := hbp5.out ht5 hng
    have hT5 := htt5.trans (ht5.mono fun b _ hb => .inl hb)
    have HW5 := Lib.hid hw5
    have HB5 := Lib.hid hb5
    have HTT5 := Lib.hid hT5
    have x5 := hb5.cell 5
    have z5 := hb5.frozen 5
    unfold cellsP at x5
    simp at x5
    clear hwd5 hbp5 htt5 hw5 hb5 ht5 hT5
    go_wp2_with fail
    clear x5 z5
    have hwd6 := (Block.far HW5.out (p := ⟨gp, 5, none⟩) hne (.slice A6 n6 a6))
    have hbp6 := (HB5.out.set_ 5 (.slice A6 n6 a6))
    have htt6 := (HTT5.out.setCell (p := ⟨gp, 5, none⟩) (.inl (.inr rfl)) (.slice A6 n6 a6))
    refine (end_no g 7 ws _ hwd6 hk7).mono ?_
    rintro e w9 ⟨rfl, n9, rfl⟩
    go_wp2_with fail
    exact ⟨rfl, WorldQ.no HF.out rfl (htt6.drewN _)⟩
  have HF := Lib.hid (world_yes hk1 hk2 hk3 hk4 hk5 hk6 hk7)
  go_enter Try.func34, Try.ntmps34
  go_wp2_with fail
  have hwd0 := HWD.out
  have hbp0 := HBP.out
  have htt0 := HT.out
  refine (num_ok HO.out (t := 1) (by omega) hk1 _ hwd0).mono ?_
  rintro e w0 ⟨rfl, hk⟩
  have hw0 := took_words hwd0 hk
  have ht0 := took_turns hk
  clear hk
  obtain ⟨V1, hV1⟩ : ∃ V, valN (ws.getD 1 []) = V := ⟨_, rfl⟩
  rw [hV1]
  have HV1 := Lib.hid hV1
  clear hV1
  have hb0 := hbp0.out ht0 hng
  have hT0 := htt0.trans (ht0.mono fun b _ hb => .inl hb)
  have HW0 := Lib.hid hw0
  have HB0 := Lib.hid hb0
  have HTT0 := Lib.hid hT0
  clear hwd0 hbp0 htt0 hw0 hb0 ht0 hT0
  go_wp2_with fail
  have hwd1 := HW0.out
  have hbp1 := HB0.out
  have htt1 := HTT0.out
  refine (num_ok HO.out (t := 2) (by omega) hk2 _ hwd1).mono ?_
  rintro e w1 ⟨rfl, hk⟩
  have hw1 := took_words hwd1 hk
  have ht1 := took_turns hk
  clear hk
  obtain ⟨V2, hV2⟩ : ∃ V, valN (ws.getD 2 []) = V := ⟨_, rfl⟩
  rw [hV2]
  have HV2 := Lib.hid hV2
  clear hV2
  have hb1 := hbp1.out ht1 hng
  have hT1 := htt1.trans (ht1.mono fun b _ hb => .inl hb)
  have HW1 := Lib.hid hw1
  have HB1 := Lib.hid hb1
  have HTT1 := Lib.hid hT1
  clear hwd1 hbp1 htt1 hw1 hb1 ht1 hT1
  go_wp2_with fail
  have hwd2 := HW1.out
  have hbp2 := HB1.out
  have htt2 := HTT1.out
  refine (num_ok HO.out (t := 3) (by omega) hk3 _ hwd2).mono ?_
  rintro e w2 ⟨rfl, hk⟩
  have hw2 := took_words hwd2 hk
  have ht2 := took_turns hk
  clear hk
  obtain ⟨V3, hV3⟩ : ∃ V, valN (ws.getD 3 []) = V := ⟨_, rfl⟩
  rw [hV3]
  have HV3 := Lib.hid hV3
  clear hV3
  have hb2 := hbp2.out ht2 hng
  have hT2 := htt2.trans (ht2.mono fun b _ hb => .inl hb)
  have HW2 := Lib.hid hw2
  have HB2 := Lib.hid hb2
  have HTT2 := Lib.hid hT2
  have x1 := hb2.cell 1
  have z1 := hb2.frozen 1
  have x2 := hb2.cell 2
  have z2 := hb2.frozen 2
  have x3 := hb2.cell 3
  have z3 := hb2.frozen 3
  unfold cellsP at x1 x2 x3
  simp at x1 x2 x3
  clear hwd2 hbp2 htt2 hw2 hb2 ht2 hT2
  go_wp2_with fail
  clear x1 z1 x2 z2 x3 z3
  have hwd3 := (Block.far (Block.far (Block.far HW2.out (p := ⟨gp, 1, none⟩) hne (.int .i64 V1)) (p := ⟨gp, 2, none⟩) hne (.int .i64 V2)) (p := ⟨gp, 3, none⟩) hne (.int .i64 V3))
  have hbp3 := (((HB2.out.set_ 1 (.int .i64 V1)).set_ 2 (.int .i64 V2)).set_ 3 (.int .i64 V3))
  have htt3 := (((HTT2.out.setCell (p := ⟨gp, 1, none⟩) (.inl (.inr rfl)) (.int .i64 V1)).setCell (p := ⟨gp, 2, none⟩) (.inl (.inr rfl)) (.int .i64 V2)).setCell (p := ⟨gp, 3, none⟩) (.inl (.inr rfl)) (.int .i64 V3))
  refine (num_ok HO.out (t := 4) (by omega) hk4 _ hwd3).mono ?_
  rintro e w3 ⟨rfl, hk⟩
  have hw3 := took_words hwd3 hk
  have ht3 := took_turns hk
  clear hk
  obtain ⟨V4, hV4⟩ : ∃ V, valN (ws.getD 4 []) = V := ⟨_, rfl⟩
  rw [hV4]
  have HV4 := Lib.hid hV4
  clear hV4
  have hvb := numB_le hk4.2
  rw [HV4.out] at hvb
  have hw8 : IntKind.u64.wrap V4 = V4 := by rw [IntKind.wrap_u64]; omega
  have hb3 := hbp3.out ht3 hng
  have hT3 := htt3.trans (ht3.mono fun b _ hb => .inl hb)
  have HW3 := Lib.hid hw3
  have HB3 := Lib.hid hb3
  have HTT3 := Lib.hid hT3
  have x6 := hb3.cell 6
  have z6 := hb3.frozen 6
  unfold cellsP at x6
  simp at x6
  clear hwd3 hbp3 htt3 hw3 hb3 ht3 hT3
  go_wp2_with fail
  clear x6 z6
  have hwd4 := (Block.far HW3.out (p := ⟨gp, 6, none⟩) hne (.int .u64 V4))
  have hbp4 := (HB3.out.set_ 6 (.int .u64 V4))
  have htt4 := (HTT3.out.setCell (p := ⟨gp, 6, none⟩) (.inl (.inr rfl)) (.int .u64 V4))
  refine (txt_ok HO.out (t := 5) (by omega) hk5 _ hwd4).mono ?_
  rintro e w4 ⟨A5, a5, rfl, hw4, ht4, ho5⟩
  obtain ⟨n5, hn5⟩ : ∃ n, (unL (ws.getD 5 [])).length = n := ⟨_, rfl⟩
  rw [hn5] at ho5 ⊢
  have HN5 := Lib.hid hn5
  clear hn5
  have HO5 := Lib.hid (ho5.mono htt4.size)
  have HTa5 := Lib.hid ht4
  clear ho5
  have hb4 := hbp4.out ht4 hng
  have hT4 := htt4.trans (ht4.mono fun b _ hb => .inl hb)
  have HW4 := Lib.hid hw4
  have HB4 := Lib.hid hb4
  have HTT4 := Lib.hid hT4
  have x4 := hb4.cell 4
  have z4 := hb4.frozen 4
  unfold cellsP at x4
  simp at x4
  clear hwd4 hbp4 htt4 hw4 hb4 ht4 hT4
  go_wp2_with fail
  clear x4 z4
  have hwd5 := (Block.far HW4.out (p := ⟨gp, 4, none⟩) hne (.slice A5 n5 a5))
  have hbp5 := (HB4.out.set_ 4 (.slice A5 n5 a5))
  have htt5 := (HTT4.out.setCell (p := ⟨gp, 4, none⟩) (.inl (.inr rfl)) (.slice A5 n5 a5))
  refine (txt_ok HO.out (t := 6) (by omega) hk6 _ hwd5).mono ?_
  rintro e w5 ⟨A6, a6, rfl, hw5, ht5, ho6⟩
  obtain ⟨n6, hn6⟩ : ∃ n, (unL (ws.getD 6 [])).length = n := ⟨_, rfl⟩
  rw [hn6] at ho6 ⊢
  have HN6 := Lib.hid hn6
  clear hn6
  have HO6 := Lib.hid (ho6.mono htt5.size)
  have HTa6 := Lib.hid ht5
  clear ho6
  have hb5 := hbp5.out ht5 hng
  have hT5 := htt5.trans (ht5.mono fun b _ hb => .inl hb)
  have HW5 := Lib.hid hw5
  have HB5 := Lib.hid hb5
  have HTT5 := Lib.hid hT5
  have x5 := hb5.cell 5
  have z5 := hb5.frozen 5
  unfold cellsP at x5
  simp at x5
  clear hwd5 hbp5 htt5 hw5 hb5 ht5 hT5
  go_wp2_with fail
  clear x5 z5
  have hwd6 := (Block.far HW5.out (p := ⟨gp, 5, none⟩) hne (.slice A6 n6 a6))
  have hbp6 := (HB5.out.set_ 5 (.slice A6 n6 a6))
  have htt6 := (HTT5.out.setCell (p := ⟨gp, 5, none⟩) (.inl (.inr rfl)) (.slice A6 n6 a6))
  refine (end_ok g 7 ws _ hwd6 hk7).mono ?_
  rintro e w6 ⟨rfl, m9, rfl⟩
  have x0 := (hbp6.drewN m9).cell 0
  have z0 := (hbp6.drewN m9).frozen 0
  unfold cellsP at x0
  simp at x0
  go_wp2_with fail
  go_end0
  unfold WorldQ
  rw [HF.out]
  have ho5 := HO5.out
  have ho6 := HO6.out
  refine ⟨(htt6.drewN _).setCell (p := ⟨gp, 0, none⟩) (.inl (.inr rfl)) _, rfl, .slice A5 n5 a5, .slice A6 n6 a6, ?_, ?_, ?_⟩
  · have h9 := (hbp6.drewN m9).set_ 0 (.bool true)
    simp only [List.getD_cons_zero, List.getD_cons_succ, HV1.out, HV2.out, HV3.out, HV4.out]
    exact h9
  · refine Own.out (xs := unL (ws.getD 5 [])) ?_ ((((((TurnsIn.refl (fun b => b = g ∨ b = gp) w4).setCell (p := ⟨gp, 4, none⟩) (.inl (.inr rfl)) (.slice A5 n5 a5)).trans (HTa6.out.mono fun b _ hb => .inl hb)).setCell (p := ⟨gp, 5, none⟩) (.inl (.inr rfl)) (.slice A6 n6 a6)).drewN m9).setCell (p := ⟨gp, 0, none⟩) (.inl (.inr rfl)) (.bool true)) ?_
    · exact ho5
    · rintro x hx (rfl | rfl)
      · exact ho5.ne_block HW4.out (by decide) hx
      · exact ho5.ne_block HB4.out (by decide) hx
  · refine Own.out (xs := unL (ws.getD 6 [])) ?_ ((((TurnsIn.refl (fun b => b = g ∨ b = gp) w5).setCell (p := ⟨gp, 5, none⟩) (.inl (.inr rfl)) (.slice A6 n6 a6)).drewN m9).setCell (p := ⟨gp, 0, none⟩) (.inl (.inr rfl)) (.bool true)) ?_
    · exact ho6
    · rintro x hx (rfl | rfl)
      · exact ho6.ne_block HW5.out (by decide) hx
      · exact ho6.ne_block HB5.out (by decide) hx
end Go.Proofs.Ytngeemfcmoahoaa.Tv
