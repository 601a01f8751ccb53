/-
  Layer 6, sector: Fuse, Off, blows: contracts. Conditions: as each theorem names.
-/
import Derived.Test.YtpnodocjpedcmaaDoorSeC
namespace Go.Proofs.YtpnodocjpedcmaaDoor.Sec
open Go.ChangeShapes Go.WideShapes Go.ChangeAt Go.RowKit Go.Proofs.YtpnodocjpedcmaaDoor.Kit Go.Maps

/-- It goes off. -/
def Dv.down (s : Dv) : Dv := if s.off = true then s else { s with off := true, offs := s.offs + 1 }
/-- A call counted of the fuse. -/
def Dv.tick (s : Dv) : Dv := if s.fuse = -1 then s else if s.fuse = 0 then s.down else { s with fuse := s.fuse - 1 }
def Dv.blown (s : Dv) : Bool := decide (s.fuse = 0)
def Dv.fused (s : Dv) (n : Int) : Dv := { s with fuse := max n 0 }
theorem Dv.Ok.down {s : Dv} (h : s.Ok) : s.down.Ok := by
  unfold Dv.down
  split
  · exact h
  · exact ⟨h.s1, h.s2, h.c1, h.c2, h.ku, h.wu, h.kr, h.wr_, h.wn, h.f1, h.f2, by have := h.o1; show 0 ≤ s.offs + 1; omega, h.w1⟩
/-- What a step leaves of a device: it lies where it lay, and only its own blocks have turned. -/
def Leaves (I : Nat → Prop) (a mk mw : Nat) (w : World) (s' : Dv) (v : Value) (e : Ending) (w' : World) : Prop :=
  e = .returned v ∧ DvAt w' I a mk mw s' ∧ TurnsIn (DSet a mk mw) w w'

set_option maxHeartbeats 1600000 in
theorem off_any (I : Nat → Prop) (a mk mw : Nat) (s : Dv) (w : World) (h : DvAt w I a mk mw s) (hb : s.offs ≤ 1000000000) :
    Calls Tryd.prog 20 #[.pointer (some ⟨a, 0, none⟩)] w (Leaves I a mk mw w s.down (.tuple #[])) := by
  have GI := Lib.hid (isOn_any I a mk mw s w h)
  have ho := h.ok.o1
  have hh := h.ok
  unfold Dv.down
  cases hoff : s.off with
  | true =>
    rw [if_pos rfl]
    rw [hoff] at GI
    clear ho hh hb
    go_enter Tryd.func20, Tryd.ntmps20
    go_wp2_with (go_at_call 41; (with_reducible refine GI.out.mono ?_); rintro e w1 ⟨rfl, rfl⟩)
    exact bodyPost_end (results_none rfl _ _ _) rfl ⟨rfl, h, TurnsIn.refl _ _⟩
  | false =>
    rw [if_neg (by decide)]
    rw [hoff] at GI
    have H1 := h.field 4 (.bool true) { s with off := true } rfl rfl rfl rfl ⟨hh.s1, hh.s2, hh.c1, hh.c2, hh.ku, hh.wu, hh.kr, hh.wr_, hh.wn, hh.f1, hh.f2, hh.o1, hh.w1⟩
    obtain ⟨D1, T1⟩ := H1
    have H2 := D1.field 5 (.int .i64 (s.offs + 1)) { s with off := true, offs := s.offs + 1 } rfl rfl rfl rfl ⟨hh.s1, hh.s2, hh.c1, hh.c2, hh.ku, hh.wu, hh.kr, hh.wr_, hh.wn, hh.f1, hh.f2, by show 0 ≤ s.offs + 1; omega, hh.w1⟩
    obtain ⟨D2, T2⟩ := H2
    obtain ⟨c0, c1, c2, c3, c4, c5, c6, c7⟩ := h.reads
    obtain ⟨d0, d1, d2, d3, d4, d5, d6, d7⟩ := D1.reads
    have f4 := h.free 4
    have f5 := D1.free 5
    have HD := Lib.hid D2
    have HT := Lib.hid (T1.trans T2)
    simp only at d0 d1 d2 d3 d4 d5 d6 d7
    clear hh h D1 T1 D2 T2 hoff
    go_enter Tryd.func20, Tryd.ntmps20
    go_wp2_with (go_at_call 41; (with_reducible refine GI.out.mono ?_); rintro e w1 ⟨rfl, rfl⟩)
    exact bodyPost_end (results_none rfl _ _ _) rfl ⟨rfl, HD.out, HT.out⟩

set_option maxHeartbeats 1600000 in
theorem fuse_any (I : Nat → Prop) (a mk mw : Nat) (s : Dv) (n : Int) (w : World) (h : DvAt w I a mk mw s) (hn : -9223372036854775808 ≤ n ∧ n ≤ 9223372036854775807) :
    Calls Tryd.prog 23 #[.pointer (some ⟨a, 0, none⟩), .int .i64 n] w (Leaves I a mk mw w (s.fused n) (.tuple #[])) := by
  have hh := h.ok
  unfold Dv.fused
  have H1 := h.field 6 (.int .i64 (max n 0)) { s with fuse := max n 0 } rfl rfl rfl rfl ⟨hh.s1, hh.s2, hh.c1, hh.c2, hh.ku, hh.wu, hh.kr, hh.wr_, hh.wn, by show -1 ≤ max n 0; omega, by show max n 0 ≤ _; omega, hh.o1, hh.w1⟩
  obtain ⟨D1, T1⟩ := H1
  obtain ⟨c0, c1, c2, c3, c4, c5, c6, c7⟩ := h.reads
  have f6 := h.free 6
  have HD := Lib.hid D1
  have HT := Lib.hid T1
  clear hh h D1 T1
  rcases (by omega : 0 ≤ n ∨ n < 0) with hn0 | hn0
  · rw [show max n 0 = n by omega] at HD HT ⊢
    go_enter Tryd.func23, Tryd.ntmps23
    go_wp2
    exact bodyPost_end (results_none rfl _ _ _) rfl ⟨rfl, HD.out, HT.out⟩
  · rw [show max n 0 = 0 by omega] at HD HT ⊢
    have hn1 : ¬ 0 ≤ n := by omega
    go_enter Tryd.func23, Tryd.ntmps23
    go_wp2
    exact bodyPost_end (results_none rfl _ _ _) rfl ⟨rfl, HD.out, HT.out⟩

set_option maxHeartbeats 1600000 in
theorem blows_any (I : Nat → Prop) (a mk mw : Nat) (s : Dv) (w : World) (h : DvAt w I a mk mw s) (hb : s.offs ≤ 1000000000) :
    Calls Tryd.prog 43 #[.pointer (some ⟨a, 0, none⟩)] w (Leaves I a mk mw w s.tick (.bool s.blown)) := by
  have hh := h.ok
  obtain ⟨c0, c1, c2, c3, c4, c5, c6, c7⟩ := h.reads
  have f6 := h.free 6
  unfold Dv.tick Dv.blown
  have hf1 := hh.f1
  have hf2 := hh.f2
  by_cases h1 : s.fuse = -1
  · rw [if_pos h1, decide_eq_false (by omega)]
    have HD := Lib.hid h
    rw [h1] at c6
    clear h hh h1
    go_enter Tryd.func43, Tryd.ntmps43
    go_wp2
    go_ret
    exact ⟨rfl, HD.out, TurnsIn.refl _ _⟩
  · rw [if_neg h1]
    by_cases h0 : s.fuse = 0
    · rw [if_pos h0, decide_eq_true h0]
      have GO := Lib.hid (off_any I a mk mw s w h hb)
      rw [h0] at c6
      clear h hh h1 h0 hf1 hf2
      generalize s.down = s1 at *
      go_enter Tryd.func43, Tryd.ntmps43
      go_wp2_with (go_at_call 20; (with_reducible refine GO.out.mono ?_); rintro e w1 ⟨rfl, hd, ht⟩)
      go_ret
      exact ⟨rfl, hd, ht⟩
    · rw [if_neg h0, decide_eq_false h0]
      have d1 : decide (s.fuse = -1) = false := decide_eq_false h1
      have d0 : decide (s.fuse = 0) = false := decide_eq_false h0
      have b1 : (s.fuse == -1) = false := by simpa using h1
      have b0 : (s.fuse == 0) = false := by simpa using h0
      have H1 := h.field 6 (.int .i64 (s.fuse - 1)) { s with fuse := s.fuse - 1 } rfl rfl rfl rfl ⟨hh.s1, hh.s2, hh.c1, hh.c2, hh.ku, hh.wu, hh.kr, hh.wr_, hh.wn, by show -1 ≤ s.fuse - 1; omega, by show s.fuse - 1 ≤ _; omega, hh.o1, hh.w1⟩
      obtain ⟨D1, T1⟩ := H1
      have HD := Lib.hid D1
      have HT := Lib.hid T1
      have hf3 : 0 < s.fuse := by omega
      clear hh h D1 T1 h1 h0 hf1
      generalize s.fuse = n at *
      go_enter Tryd.func43, Tryd.ntmps43
      go_wp2
      go_ret
      exact ⟨rfl, HD.out, HT.out⟩
end Go.Proofs.YtpnodocjpedcmaaDoor.Sec
