/-
  Layer 6, sector: a device through a row of calls; the document's example. Conditions: as each theorem names.
-/
import Derived.Test.YtfngmdojogdodaaSeM
namespace Go.Proofs.Ytfngmdojogdodaa.Sec
open Go.ChangeShapes Go.WideShapes Go.ChangeAt Go.RowKit Go.Proofs.Ytfngmdojogdodaa.Kit Go.Maps

/-- A device of the call's own, some steps on. -/
structure Dev (w0 w : World) (a mk mw : Nat) (s : Dv) : Prop where
  d : DvAt w (fun _ => True) a mk mw s
  b : Below w0.heap.size w0 w
  ga : w0.heap.size ≤ a
  gk : w0.heap.size ≤ mk
  gw : w0.heap.size ≤ mw

section
variable {w0 w w' : World} {a mk mw : Nat} {s s' : Dv}
theorem Dev.below (h : Dev w0 w a mk mw s) (hb : Below w.heap.size w w') : Dev w0 w' a mk mw s :=
  ⟨h.d.below hb, h.b.trans (hb.mono h.b.size), h.ga, h.gk, h.gw⟩
theorem Dev.turn (h : Dev w0 w a mk mw s) {I : Nat → Prop} (hd : DvAt w' I a mk mw s') (t : TurnsIn (DSet a mk mw) w w') : Dev w0 w' a mk mw s' :=
  ⟨hd.mono fun _ _ _ => trivial, h.b.trans (t.toBelow h.b.size fun b hb hs => by
    have h1 := h.ga
    have h2 := h.gk
    have h3 := h.gw
    rcases hs with rfl | rfl | rfl <;> omega), h.ga, h.gk, h.gw⟩
/-- What a step leaves of it. -/
def Moves (w0 : World) (a mk mw : Nat) (w : World) (s' : Dv) (v : Value) (e : Ending) (w' : World) : Prop :=
  e = .returned v ∧ Dev w0 w' a mk mw s' ∧ TurnsIn (DSet a mk mw) w w'
theorem Dev.moves (h : Dev w0 w a mk mw s) {v : Value} {f : Nat} {args : Array Value} (c : Calls Try.prog f args w (Leaves (fun _ => True) a mk mw w s' v)) : Calls Try.prog f args w (Moves w0 a mk mw w s' v) :=
  c.mono fun _ _ ⟨e, d, t⟩ => ⟨e, h.turn d t, t⟩
end

theorem own_block {w : World} {B : Nat} {e : TypeId} {k : IntKind} {v : Value} {xs : List Int} (h : Own w B e k v xs) (hl : xs.length = 128) : ∃ g cap : Nat, v = .slice (some ⟨g, 0, none⟩) 128 cap := by
  obtain ⟨g, cap, he, _⟩ := h.form (by omega)
  exact ⟨g, cap, by rw [he, hl]⟩

/-- The example's devices. -/
theorem example_ (X : List Int) (hl : X.length = 128) : ∃ s0 s1 s2 s3 s4 : Dv, Dv.new 128 3 = s0 ∧ s0.write 0 X = (0, s1) ∧ s1.back [1] = s2 ∧ s2.read 0 = (X, 0) ∧ s2.write 0 X = (0, s3) ∧ s3.back [2] = s4 ∧ s4.read 0 = ([], 7) ∧
    (s0.offs ≤ 1000000000 ∧ s0.wr ≤ 1000000000) ∧ (s1.offs ≤ 1000000000 ∧ s1.wr ≤ 1000000000) ∧ (s2.offs ≤ 1000000000 ∧ s2.wr ≤ 1000000000) ∧ s3.offs ≤ 1000000000 := by
  refine ⟨_, ⟨128, 3, [], [(0, some X)], false, 0, -1, 1⟩, ⟨128, 3, [(0, some X)], [], false, 1, -1, 1⟩, ⟨128, 3, [(0, some X)], [(0, some X)], false, 1, -1, 2⟩, ⟨128, 3, [(0, none)], [], false, 2, -1, 2⟩, rfl, ?_, ?_, ?_, ?_, ?_, ?_, ?_, ?_, ?_, ?_⟩
  · simp [Dv.write, Dv.writes, Dv.tick, Dv.new, putS, hl]
  · rfl
  · rfl
  · simp [Dv.write, Dv.writes, Dv.tick, putS, hl]
  · rfl
  · rfl
  · exact ⟨by show (0 : Int) ≤ _; decide, by show (0 : Int) ≤ _; decide⟩
  · exact ⟨by show (0 : Int) ≤ _; decide, by show (1 : Int) ≤ _; decide⟩
  · exact ⟨by show (1 : Int) ≤ _; decide, by show (1 : Int) ≤ _; decide⟩
  · show (1 : Int) ≤ _
    decide

set_option maxRecDepth 100000 in
set_option maxHeartbeats 3200000 in
theorem awake_any (w : World) : Calls Try.prog 8 #[] w fun e w' => e = .returned (.bool true) ∧ Below w.heap.size w w' := by
  obtain ⟨X, hX⟩ : ∃ X, stepB 128 7 false = X := ⟨_, rfl⟩
  have hl : X.length = 128 := by rw [← hX]; simp [stepB]
  have h5 : X[5]?.getD 0 = 7 := by rw [← hX]; rfl
  have hO : Octets X := by
    intro x hx
    rw [← hX] at hx
    simp [stepB] at hx
    omega
  obtain ⟨s0, s1, s2, s3, s4, e0, e1, e2, e3, e4, e5, e6, ⟨o0, r0⟩, ⟨o1, r1⟩, ⟨o2, r2⟩, o3⟩ := example_ X hl
  have GN : ∀ W, Calls Try.prog 7 #[.int .i64 128, .int .i64 3] W (NewDev (fun _ => True) s0 W) := fun W => by
    have := new_any (fun _ => True) 128 3 W (by decide) (by decide) (by decide) (by decide)
    rwa [e0] at this
  have GY : ∀ W, Calls Try.prog 18 #[.int .i64 128, .agg #[.int .i64 0, .int .i64 0, .int .u8 7, .bool false, .slice none 0 0]] W fun e w' => ∃ v, e = .returned v ∧ Own w' W.heap.size 5 .u8 v X ∧ Below W.heap.size W w' := fun W => by
    have := bytes_any 128 0 0 7 false (.slice none 0 0) W (by decide)
    rwa [hX] at this
  have GW : ∀ (s s' : Dv) a mk mw W A c, s.write 0 X = (0, s') → s.offs ≤ 1000000000 → s.wr ≤ 1000000000 → Dev w W a mk mw s → Holds W W.heap.size .u8 A X → Calls Try.prog 19 #[.pointer (some ⟨a, 0, none⟩), .int .i64 0, .slice A 128 c] W (Moves w a mk mw W s' (.int .i64 0)) := fun s s' a mk mw W A c e ho hr D hh => by
    have := D.moves (write_any _ a mk mw s 0 A X c W D.d (fun _ _ => trivial) (by decide) (by omega) hO hh ho hr)
    rwa [e, hl] at this
  have GB : ∀ (p : Int) (s s' : Dv) a mk mw W, 0 ≤ p ∧ p ≤ 255 → s.back [p] = s' → s.offs ≤ 1000000000 → Dev w W a mk mw s → Calls Try.prog 21 #[.pointer (some ⟨a, 0, none⟩), .slice (some ⟨W.heap.size, 0, none⟩) 1 1] (W.alloc (.cells #[.int .u8 p] 5)) (Moves w a mk mw (W.alloc (.cells #[.int .u8 p] 5)) s' (.tuple #[])) := fun p s s' a mk mw W hp e ho D => by
    have D' := D.below ((Below.refl _ W).alloc (Nat.le_refl _) (.cells #[.int .u8 p] 5))
    have hh := Holds.new W .u8 p 5
    rw [show W.heap.size + 1 = (W.alloc (.cells #[.int .u8 p] 5)).heap.size by simp] at hh
    have := D'.moves (back_any _ a mk mw s (some ⟨W.heap.size, 0, none⟩) [p] 1 _ D'.d (fun _ _ => trivial) (by simp) (by intro x hx; simp at hx; omega) hh ho)
    rwa [e] at this
  have GR : ∀ (s : Dv) zs E a mk mw W, s.read 0 = (zs, E) → Dev w W a mk mw s → Calls Try.prog 22 #[.pointer (some ⟨a, 0, none⟩), .int .i64 0] W (GivesB zs E W) := fun s zs E a mk mw W e D => by
    have := read_any _ a mk mw s 0 W D.d (by decide)
    rwa [e] at this
  have GN := Lib.hid GN
  have GY := Lib.hid GY
  have GW := Lib.hid GW
  have GB := Lib.hid GB
  have GR := Lib.hid GR
  have E1 := Lib.hid e1
  have E2 := Lib.hid e2
  have E3 := Lib.hid e3
  have E4 := Lib.hid e4
  have E5 := Lib.hid e5
  have E6 := Lib.hid e6
  have HL := Lib.hid hl
  have H5 := Lib.hid h5
  clear e0 e1 e2 e3 e4 e5 e6 hl h5 hX hO
  go_enter Try.func8, Try.ntmps8
  go_wp2_with (first
    | (go_at_call 7; refine (GN.out _).mono ?_; rintro e w1 ⟨a, mk, mw, rfl, D, hb1, ga, gk, gw⟩; have D1 : Dev w w1 a mk mw s0 := ⟨D, hb1, ga, gk, gw⟩; clear D hb1 ga gk gw)
    | (have _t := D1; go_at_call 18; refine (GY.out _).mono ?_; rintro e w2 ⟨v2, rfl, own2, hb2⟩; obtain ⟨g2, c2, he2⟩ := own_block own2 HL.out; subst he2; obtain ⟨A2, d2, he3, -, -, h2⟩ := own2.opened; injection he3 with q1 q2 q3; subst q1; clear q2 q3; have D2 := D1.below hb2; clear _t D1 own2 hb2)
    | (have _t := D2; go_at_call 19; refine (GW.out _ _ _ _ _ _ _ _ E1.out o0 r0 D2 h2).mono ?_; rintro e w3 ⟨rfl, D3, T3⟩; clear _t D2 T3 h2)
    | (have _t := D3; go_at_call 21; refine (GB.out 1 _ _ _ _ _ _ (by decide) E2.out o1 D3).mono ?_; rintro e w4 ⟨rfl, D4, T4⟩; clear _t D3 T4)
    | (have _t := D4; go_at_call 22; refine (GR.out _ _ _ _ _ _ _ E3.out D4).mono ?_; rintro e w5 ⟨v5, rfl, own5, hb5⟩; obtain ⟨g5, c5, he5⟩ := own_block own5 HL.out; subst he5; have D5 := D4.below hb5; clear _t D4 hb5)
    | (have _t := D5; go_at_call 18; refine (GY.out _).mono ?_; rintro e w6 ⟨v6, rfl, own6, hb6⟩; obtain ⟨g6, c6, he6⟩ := own_block own6 HL.out; subst he6; obtain ⟨A6, d6, he7, -, -, h6⟩ := own6.opened; injection he7 with q1 q2 q3; subst q1; clear q2 q3; have D6 := D5.below hb6; have own5 := own5.below hb6; clear _t D5 own6 hb6)
    | (have _t := D6; go_at_call 19; refine (GW.out _ _ _ _ _ _ _ _ E4.out o2 r2 D6 h6).mono ?_; rintro e w7 ⟨rfl, D7, T7⟩; have own5 := D6.d.own T7 own5 (by decide); clear _t D6 T7 h6)
    | (have _t := D7; go_at_call 21; refine (GB.out 2 _ _ _ _ _ _ (by decide) E5.out o3 D7).mono ?_; rintro e w8 ⟨rfl, D8, T8⟩; have own5 := (D7.d.alloc _).own T8 (own5.alloc _) (by decide); clear _t D7 T8)
    | (have _t := D8; go_at_call 22; refine (GR.out _ _ _ _ _ _ _ E6.out D8).mono ?_; rintro e w9 ⟨v9, rfl, own9, hb9⟩; have D9 := D8.below hb9; have own5 := own5.below hb9; have q5 := own5.cellAt (i := 5) HL.out.symm (by rw [HL.out]; decide); rw [H5.out] at q5; clear _t D8 hb9 own9))
  go_ret
  exact ⟨rfl, D9.b⟩
end Go.Proofs.Ytfngmdojogdodaa.Sec
