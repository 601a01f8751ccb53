/-
  Layer 1, sha: a block mixed into a state: contract. Conditions: as each theorem names.
-/
import Derived.Test.YtpnodocjpedcmaaDoorMShT
namespace Go.Proofs.YtpnodocjpedcmaaDoor.Sha
open Go.ChangeShapes Go.WideShapes Go.ChangeAt Go.RowKit Go.Proofs.YtpnodocjpedcmaaDoor.Kit

/-- What the program's own table reads as. -/
def Laid (g : Nat) (l : List Int) (w : World) : Prop := ∀ k, k < l.length → w.cell? ⟨g, k, none⟩ = some (.int .u32 (l.getD k 0))
theorem Laid.lt {g : Nat} {l : List Int} {w : World} (h : Laid g l w) (hl : 0 < l.length) : g < w.heap.size := World.block_lt_of_cell? _ _ (h 0 hl)
theorem Laid.below {g : Nat} {l : List Int} {w w' : World} (h : Laid g l w) (hl : 0 < l.length) (hb : Below w.heap.size w w') : Laid g l w' := fun k hk => (hb.cell (p := ⟨g, k, none⟩) (h.lt hl)).trans (h k hk)

def LaidS (w : World) : Prop := Laid 0 cubesL w
theorem cubes_length : cubesL.length = 64 := rfl
theorem LaidS.below {w w' : World} (h : LaidS w) (hb : Below w.heap.size w w') : LaidS w' := Laid.below h (by rw [cubes_length]; omega) hb
theorem LaidS.at_ {w : World} (h : LaidS w) {i : Nat} (hi : i < 64) : w.cell? ⟨0, i, none⟩ = some (.int .u32 (cubesL.getD i 0)) := h i (by rw [cubes_length]; exact hi)

/-- A quiet call whose contract has the caller's world on the left. -/
theorem quiet_left {P : Program} {f : FuncId} {args : Array Value} {w : World} {n : Nat} {v : Value}
    (h : Calls P f args (w.drewN n) fun e w' => e = .returned v ∧ w.drewN n = w') : Calls P f args (w.drewN n) fun e w'' => e = .returned v ∧ ∃ m, w'' = w.drewN m :=
  h.mono fun _ _ ⟨he, hm⟩ => ⟨he, n, hm.symm⟩

/-- l is the state behind n rounds. -/
structure IsRnd (ws : List Int) (n : Nat) (s l : List Int) : Prop where
  out : l = roundsS ws n s

def t1 (e f g h k x : Int) : Int := add32 (add32 (add32 (add32 h (sum1 e)) (picks e f g)) k) x
def t2 (a b c : Int) : Int := add32 (sum0 a) (most a b c)
theorem IsRnd.next {ws : List Int} {n : Nat} {s : List Int} {a b c d e f g h : Int} (r : IsRnd ws n s [a, b, c, d, e, f, g, h]) {k x : Int} (hk : cubesL.getD n 0 = k) (hx : ws.getD n 0 = x) :
    IsRnd ws (n + 1) s [add32 (t1 e f g h k x) (t2 a b c), a, b, c, add32 d (t1 e f g h k x), e, f, g] := by
  subst hk; subst hx
  exact ⟨by rw [roundsS, ← r.out]; rfl⟩

theorem IsRnd.bd {ws : List Int} {n : Nat} {s l : List Int} (r : IsRnd ws n s l) (hs : St8 s) : St8 l := by rw [r.out]; exact roundsS_st ws hs n

theorem cubes_bd (i : Nat) : W32 (cubesL.getD i 0) := by
  have h : ∀ i, i < 64 → 0 ≤ cubesL.getD i 0 ∧ cubesL.getD i 0 ≤ 4294967295 := by decide +kernel
  by_cases hi : i < 64
  · exact h i hi
  · rw [List.getD_eq_getElem?_getD, List.getElem?_eq_none (by rw [cubes_length]; omega)]
    unfold W32; simp

theorem arr_of_words (W : World) (ws : List Int) (k : IntKind) (t : TypeId) : Arr (W.alloc (.cells (ws.map (Value.int k)).toArray t)) W.heap.size t k ws := Arr.new W t k ws

theorem IsRnd.mix {bs ws : List Int} (hw : IsSched bs 64 ws) {a0 b0 c0 d0 e0 f0 g0 h0 a b c d e f g h : Int} (r : IsRnd ws 64 [a0, b0, c0, d0, e0, f0, g0, h0] [a, b, c, d, e, f, g, h]) :
    mixS [a0, b0, c0, d0, e0, f0, g0, h0] bs = [add32 a0 a, add32 b0 b, add32 c0 c, add32 d0 d, add32 e0 e, add32 f0 f, add32 g0 g, add32 h0 h] := by
  unfold mixS
  rw [← hw.out, ← r.out]
  rfl

set_option maxRecDepth 100000 in
set_option maxHeartbeats 3200000 in
theorem mix_any (s : List Int) (hs : St8 s) (A : Option Addr) (bs : List Int) (c : Nat) (w : World) (hl : bs.length = 64) (hc : 64 ≤ c) (hm : c ≤ maxLen) (ho : Octets bs) (hr : Holds w w.heap.size .u8 A bs) (hL : LaidS w) :
    Calls Tryd.prog 88 #[arrV .u32 s, .slice A 64 c] w fun e w' => e = .returned (arrV .u32 (mixS s bs)) ∧ Below w.heap.size w w' := by
  obtain ⟨a0, b0, c0, d0, e0, f0, g0, h0, rfl, wa, wb, wc, wd, we, wf, wg, wh⟩ := hs.open_
  have GW := fun W hb => words_any A bs c W hl hc hm ho ((hr.below hb).more hb.size)
  obtain ⟨ws, hws⟩ : ∃ ws, IsSched bs 64 ws := ⟨_, ⟨rfl⟩⟩
  rw [← hws.out] at GW
  have GW := Lib.hid GW
  unfold arrV
  go_enter Tryd.func88, Tryd.ntmps88
  go_wp2_with fail
  refine (GW.out _ (((Below.refl _ _).alloc (Nat.le_refl _) _).alloc (by simp) _)).mono ?_
  rintro e w1 ⟨rfl, hb1⟩
  have sa : Arr w1 w.heap.size 151 .u32 [a0, b0, c0, d0, e0, f0, g0, h0] := ((arr_of_words w _ _ _).alloc _).below hb1 (by simp <;> omega)
  have sr : Arr w1 (w.heap.size + 1) 151 .u32 [0, 0, 0, 0, 0, 0, 0, 0] := by
    have := (arr_of_words (w.alloc (.cells ([a0, b0, c0, d0, e0, f0, g0, h0].map (Value.int .u32)).toArray 151)) [0, 0, 0, 0, 0, 0, 0, 0] .u32 151).below hb1 (by simp)
    rwa [show (w.alloc (.cells ([a0, b0, c0, d0, e0, f0, g0, h0].map (Value.int .u32)).toArray 151)).heap.size = w.heap.size + 1 by simp] at this
  have hz1 : w.heap.size + 1 < w1.heap.size := sr.lt
  have hbw : Below w.heap.size w w1 := (((Below.refl _ _).alloc (Nat.le_refl _) _).alloc (by simp) _).trans (hb1.mono (by simp; omega))
  clear GW hb1
  go_wp2_with (refine wpList_store_arr rfl _ _ _ rfl (arr64 w1) rfl rfl (by rw [hws.length]; rfl) (by rw [hws.length]; kernel_rfl) ?_; intro w2 r2 g2)
  have hb2 : Below w.heap.size w w2 := (hbw.trans ((Below.refl _ w1).alloc (by omega) _)).trans (below_of_grown g2 (by simp; omega) (fun g hg => by injection hg with hg; omega))
  have s2 : Arr w2 w.heap.size 151 .u32 [a0, b0, c0, d0, e0, f0, g0, h0] := (sa.alloc _).grown g2 (by intro h; injection h with h; omega)
  have o2 : Arr w2 (w.heap.size + 1) 151 .u32 [0, 0, 0, 0, 0, 0, 0, 0] := (sr.alloc _).grown g2 (by intro h; injection h with h; omega)
  clear g2 sa sr hbw
  have q0 : w2.cell? ⟨w.heap.size, 0, none⟩ = some (.int .u32 a0) := s2.cell (i := 0) (by simp)
  have q1 : w2.cell? ⟨w.heap.size, 1, none⟩ = some (.int .u32 b0) := s2.cell (i := 1) (by simp)
  have q2 : w2.cell? ⟨w.heap.size, 2, none⟩ = some (.int .u32 c0) := s2.cell (i := 2) (by simp)
  have q3 : w2.cell? ⟨w.heap.size, 3, none⟩ = some (.int .u32 d0) := s2.cell (i := 3) (by simp)
  have q4 : w2.cell? ⟨w.heap.size, 4, none⟩ = some (.int .u32 e0) := s2.cell (i := 4) (by simp)
  have q5 : w2.cell? ⟨w.heap.size, 5, none⟩ = some (.int .u32 f0) := s2.cell (i := 5) (by simp)
  have q6 : w2.cell? ⟨w.heap.size, 6, none⟩ = some (.int .u32 g0) := s2.cell (i := 6) (by simp)
  have q7 : w2.cell? ⟨w.heap.size, 7, none⟩ = some (.int .u32 h0) := s2.cell (i := 7) (by simp)
  go_wp2_with fail
  go_quiet (fail)
  go_wp2_with fail
  go_quiet (fail)
  go_wp2_with fail
  clear q0 q1 q2 q3 q4 q5 q6 q7
  generalize w1.heap.size = B1 at *
  go_loopw [6, 7, 8, 9, 10, 11, 12, 13, 35] (fun sa sb sc sd se sf sg sh s wx => ∃ (i : Nat) (a b c d e f g h : Int), i ≤ 64 ∧ s = .int .i64 i ∧ sa = .int .u32 a ∧ sb = .int .u32 b ∧ sc = .int .u32 c ∧ sd = .int .u32 d ∧ se = .int .u32 e ∧ sf = .int .u32 f ∧ sg = .int .u32 g ∧ sh = .int .u32 h ∧
      IsRnd ws i [a0, b0, c0, d0, e0, f0, g0, h0] [a, b, c, d, e, f, g, h] ∧ Arr wx B1 166 .u32 ws ∧ Arr wx w.heap.size 151 .u32 [a0, b0, c0, d0, e0, f0, g0, h0] ∧ Arr wx (w.heap.size + 1) 151 .u32 [0, 0, 0, 0, 0, 0, 0, 0] ∧ Below w.heap.size w wx)
      (fun _ _ _ _ _ _ _ _ s _ => 64 - (intOf s).toNat)
  case atStart => exact ⟨0, a0, b0, c0, d0, e0, f0, g0, h0, by omega, rfl, rfl, rfl, rfl, rfl, rfl, rfl, rfl, rfl, ⟨rfl⟩, r2, s2, o2, below_draws (below_draws hb2 _) _⟩
  case round =>
    clear r2 s2 o2 hb2
    obtain ⟨i, a, b, c, d, e, f, g, h, hi, rfl, rfl, rfl, rfl, rfl, rfl, rfl, rfl, rfl, hR, r2, s2, o2, hb⟩ := hrel
    by_cases hlt : i < 64
    · have hst := hR.bd ⟨rfl, fun x hx => by
        simp only [List.mem_cons, List.not_mem_nil, or_false] at hx
        rcases hx with rfl | rfl | rfl | rfl | rfl | rfl | rfl | rfl <;> assumption⟩
      have xa := hst.2 a (by simp)
      have xb := hst.2 b (by simp)
      have xc := hst.2 c (by simp)
      have xd := hst.2 d (by simp)
      have xe := hst.2 e (by simp)
      have xf := hst.2 f (by simp)
      have xg := hst.2 g (by simp)
      have xh := hst.2 h (by simp)
      have kc := (hb.cell (p := ⟨0, i, none⟩) (hL.lt (by rw [cubes_length]; omega))).trans (hL.at_ hlt)
      have kw := r2.cell (i := i) (by rw [hws.length]; omega)
      have xw := hws.get i
      have xk := cubes_bd i
      have hN := hR.next (k := cubesL.getD i 0) (x := ws[i]?.getD 0) rfl rfl
      rw [List.getD_eq_getElem?_getD] at xw
      generalize cubesL.getD i 0 = K at *
      generalize ws[i]?.getD 0 = X at *
      have HN := Lib.hid hN
      clear hst hR hN hr hs wa wb wc wd we wf wg wh
      go_wp2_with fail
      refine wp_region_quiet_lit (by kernel_rfl) (by kernel_rfl) ?_
      repeat (quiet_step (fail))
      quiet_step (exact quiet_left (turned_any e 6 6 _ rfl xe (by decide)))
      repeat (quiet_step (fail))
      quiet_step (exact quiet_left (turned_any e 11 11 _ rfl xe (by decide)))
      repeat (quiet_step (fail))
      quiet_step (exact quiet_left (turned_any e 25 25 _ rfl xe (by decide)))
      repeat (quiet_step (fail))
      refine wpQuiet_nil ?_
      intro _ hw'
      obtain ⟨nq, hw''⟩ := hw'
      subst hw''
      go_wp2_with fail
      refine (turned_any a 2 2 _ rfl xa (by decide)).mono ?_
      rintro _ _ ⟨rfl, rfl⟩
      go_wp2_with fail
      refine (turned_any a 13 13 _ rfl xa (by decide)).mono ?_
      rintro _ _ ⟨rfl, rfl⟩
      go_wp2_with fail
      refine (turned_any a 22 22 _ rfl xa (by decide)).mono ?_
      rintro _ _ ⟨rfl, rfl⟩
      go_wp2_with fail
      go_roundw
      case rel => exact ⟨i + 1, _, _, _, _, _, _, _, _, by omega, by go_num, rfl, rfl, rfl, rfl, rfl, rfl, rfl, rfl, HN.out, r2, s2, o2, below_draws hb nq⟩
      case measure => simp [intOf] <;> omega
    · obtain rfl : i = 64 := by omega
      have hM := hR.mix hws
      unfold add32 at hM
      have HM := Lib.hid hM
      have q0 : wr.cell? ⟨w.heap.size, 0, none⟩ = some (.int .u32 a0) := s2.cell (i := 0) (by simp)
      have q1 : wr.cell? ⟨w.heap.size, 1, none⟩ = some (.int .u32 b0) := s2.cell (i := 1) (by simp)
      have q2 : wr.cell? ⟨w.heap.size, 2, none⟩ = some (.int .u32 c0) := s2.cell (i := 2) (by simp)
      have q3 : wr.cell? ⟨w.heap.size, 3, none⟩ = some (.int .u32 d0) := s2.cell (i := 3) (by simp)
      have q4 : wr.cell? ⟨w.heap.size, 4, none⟩ = some (.int .u32 e0) := s2.cell (i := 4) (by simp)
      have q5 : wr.cell? ⟨w.heap.size, 5, none⟩ = some (.int .u32 f0) := s2.cell (i := 5) (by simp)
      have q6 : wr.cell? ⟨w.heap.size, 6, none⟩ = some (.int .u32 g0) := s2.cell (i := 6) (by simp)
      have q7 : wr.cell? ⟨w.heap.size, 7, none⟩ = some (.int .u32 h0) := s2.cell (i := 7) (by simp)
      clear hM hR hr hs wa wb wc wd we wf wg wh
      have arr8 : Tryd.prog.underlying 151 = some (.array 8 150) := Tryd.underlying151
      go_wp2_with (refine wpList_store_arr (ys := [(a0 + a) % 4294967296, (b0 + b) % 4294967296, (c0 + c) % 4294967296, (d0 + d) % 4294967296, (e0 + e) % 4294967296, (f0 + f) % 4294967296, (g0 + g) % 4294967296, (h0 + h) % 4294967296]) rfl _ _ _ rfl o2 rfl rfl rfl (by kernel_rfl) ?_; intro w4 r4 g4)
      rw [HM.out]
      refine bodyPost_ret (v := arrV .u32 _) (results_cell_row rfl _ _ (w.heap.size + 1) 151 _ (0, 0) _ rfl r4 arr8 rfl (by kernel_rfl)) rfl ⟨rfl, ?_⟩
      exact hb.trans (below_of_grown g4 hb.size fun g hg => by injection hg with hg; omega)
end Go.Proofs.YtpnodocjpedcmaaDoor.Sha
