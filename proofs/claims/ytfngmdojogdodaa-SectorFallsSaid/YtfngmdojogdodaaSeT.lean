/-
  Layer 6, sector: a step of both devices: Write: contracts. Conditions: as each theorem names.
-/
import Derived.Test.YtfngmdojogdodaaSeS
namespace Go.Proofs.Ytfngmdojogdodaa.Sec
open Go.ChangeShapes Go.WideShapes Go.ChangeAt Go.RowKit Go.Proofs.Ytfngmdojogdodaa.Kit

section
variable {w w' : World} {I : Nat → Prop} {a mk mw : Nat} {s : Dv}
theorem DvAt.own_far (h : DvAt w I a mk mw s) {B : Nat} {e : TypeId} {k : IntKind} {g n c : Nat} {xs : List Int} (ho : Own w B e k (.slice (some ⟨g, 0, none⟩) n c) xs) (he : e ≠ 57) : ¬ DSet a mk mw g := by
  rcases ho.2 with ⟨e0, _⟩ | ⟨g', cap, cur, e0, _, hh, _⟩
  · cases e0
  · injection e0 with e0
    injection e0 with e0
    injection e0 with e0
    subst e0
    exact h.not_cells hh he
/-- A row of the call's own turns, in which the device has nothing. -/
theorem DvAt.row {g : Nat} (h : DvAt w (fun b => b ≠ g) a mk mw s) (hn : ¬ DSet a mk mw g) (t : TurnsIn (fun b => b = g) w w') : DvAt w' (fun b => b ≠ g) a mk mw s :=
  h.out t (fun e => hn (Or.inl e.symm)) (fun e => hn (Or.inr (Or.inl e.symm))) (fun e => hn (Or.inr (Or.inr e.symm))) (fun _ hb hi => (hi hb).elim)
end
theorem In6.row {w0 w W W' : World} {a mk mw : Nat} {s : Dv} {o : Step6} {cs : Array Value} {g : Nat} {I : Nat → Prop} (h : In6 w0 w W a mk mw s o cs) (hd : DvAt W' I a mk mw s) (t : TurnsIn (fun b => b = g) W W') (hg : w.heap.size + 1 + 1 < g) : In6 w0 w W' a mk mw s o cs := by
  have hw := h.g
  exact ⟨⟨hd.mono fun _ _ _ => trivial, h.d.b.trans (t.toBelow h.d.b.size (fun b hb e => by omega)), h.d.ga, h.d.gk, h.d.gw⟩, h.t.then_ t (fun b hb e => by omega), h.x.out t (by omega), h.y.out t (by omega), h.z.out t (by omega), h.g⟩
/-- While the row is written over. -/
structure Wr6 (w0 w W : World) (a mk mw : Nat) (s : Dv) (o : Step6) (cs : Array Value) (B gb N cap : Nat) (ys : List Int) : Prop where
  j : In6 w0 w W a mk mw s o cs
  d : DvAt W (fun b => b ≠ gb) a mk mw s
  own : Own W B 5 .u8 (.slice (some ⟨gb, 0, none⟩) N cap) ys
  n : N = ys.length
  g : w.heap.size + 1 + 1 < gb
theorem Wr6.next {w0 w W : World} {a mk mw : Nat} {s : Dv} {o : Step6} {cs : Array Value} {B gb N cap : Nat} {ys : List Int} (h : Wr6 w0 w W a mk mw s o cs B gb N cap ys) (j : Nat) : ∃ zs, Wr6 w0 w (W.setCell ⟨gb, j, none⟩ (.int .u8 99)) a mk mw s o cs B gb N cap zs := by
  have t : TurnsIn (fun b => b = gb) W (W.setCell ⟨gb, j, none⟩ (.int .u8 99)) := TurnsIn.setCell (S := fun b => b = gb) (p := ⟨gb, j, none⟩) (TurnsIn.refl _ W) (Or.inl rfl) _
  have hn := h.d.own_far h.own (by decide)
  have hd := h.d.row hn t
  have ho := h.own.stored h.n j 99
  exact ⟨_, h.j.row hd t h.g, hd, ho.1, by rw [List.length_set]; exact h.n, h.g⟩

set_option maxRecDepth 100000 in
set_option maxHeartbeats 6400000 in
theorem does_write (w0 w : World) (a mk mw : Nat) (s m : Dv) (o : Step6) (dv : Value) (hd : Dev w0 w a mk mw s) (hr : RDv w dv m) (hk : o.k = 0) (hok : m.Ok) (hs : s.offs ≤ 1000000000) (hm : 0 ≤ m.offs ∧ m.offs ≤ 1000000000) (hi : -9223372036854775808 ≤ o.i ∧ o.i ≤ 9223372036854775807) (hb : 0 ≤ o.b ∧ o.b ≤ 255) (hsw : s.wr ≤ 1000000000) (hmw : m.wr ≤ 1000000000) :
    Calls Try.prog 13 #[.pointer (some ⟨a, 0, none⟩), dv, .agg o.cells.toArray] w (Does w0 w a mk mw (s.write o.i (stepB m.size o.b o.long)).2 (m.write o.i (stepB m.size o.b o.long)).2 (s = m)) := by
  have HR := Lib.hid (fun W (t : TurnsIn (DSet a mk mw) w W) => hr.dset hd.d t)
  have h3 := Lib.hid (fun cs => In6.start hd o cs)
  obtain ⟨Ak, ck, Aw, cw, rfl, hkr⟩ := hr
  have HKR := Lib.hid hkr
  clear hkr
  obtain ⟨k, i, b, long, A, cap, zs⟩ := o
  simp only at *
  unfold Step6.cells zD at h3
  unfold dCells at HR ⊢
  unfold Step6.cells
  subst hk
  obtain ⟨X, hX⟩ : ∃ X, stepB m.size b long = X := ⟨_, rfl⟩
  have hXo : Octets X := by
    rw [← hX]
    unfold stepB
    intro x hx
    rcases List.mem_append.1 hx with hx | hx
    · rw [(List.mem_replicate.1 hx).2]
      omega
    · split at hx
      · simp at hx
        omega
      · cases hx
  have hXl : X.length ≤ 4097 ∧ 0 < X.length := by
    rw [← hX]
    unfold stepB
    have := hok.s1
    have := hok.s2
    rw [List.length_append, List.length_replicate]
    split <;> simp <;> omega
  rw [hX]
  have hgood : s = m → ((s.write i X).1 == (m.write i X).1) = true := fun e => by rw [e]; exact beq_self_eq_true _
  have hms := hok.s2
  have GY : ∀ W, Calls Try.prog 18 #[.int .i64 m.size, .agg #[.int .i64 0, .int .i64 i, .int .u8 b, .bool long, .slice A zs.length cap]] W fun e w' => ∃ v, e = .returned v ∧ Own w' W.heap.size 5 .u8 v X ∧ Below W.heap.size W w' := fun W => by
    have := bytes_any m.size 0 i b long (.slice A zs.length cap) W hms
    rwa [hX] at this
  have GY := Lib.hid GY
  have GO := Lib.hid (fun (W : World) (gb c : Nat) (h : DvAt W (fun g => g ≠ gb) a mk mw s) (hg : gb < W.heap.size) (hh : Holds W W.heap.size .u8 (some ⟨gb, 0, none⟩) X) => write_any _ a mk mw s i (some ⟨gb, 0, none⟩) X c W h (fun g hgg => by omega) hi (by omega) hXo hh hs hsw)
  have GD := Lib.hid (fun (v : Value) (W : World) (h : RDv W v m) => rwrite_any v m i X W h hok hi (by omega) hm.2 hmw)
  obtain ⟨sb, hsb⟩ : ∃ sb, (s.write i X).2 = sb := ⟨_, rfl⟩
  obtain ⟨mb, hmb⟩ : ∃ mb, (m.write i X).2 = mb := ⟨_, rfl⟩
  obtain ⟨E, hE⟩ : ∃ E, (s.write i X).1 = E := ⟨_, rfl⟩
  obtain ⟨F, hF⟩ : ∃ F, (m.write i X).1 = F := ⟨_, rfl⟩
  rw [hsb, hE] at GO
  rw [hmb, hF] at GD
  rw [hE, hF] at hgood
  rw [hsb, hmb]
  have HG := Lib.hid hgood
  have HXO := Lib.hid hXo
  obtain ⟨hx1, hx2⟩ := hXl
  clear hs hm hok hsb hmb hE hF hgood hX hXo hsw hmw hms
  have H3 := Lib.hid (h3.out #[.int .i64 m.size, .int .i64 m.count, .slice Ak m.kept.length ck, .slice Aw m.waits.length cw, .bool m.off, .int .i64 m.offs, .int .i64 m.fuse, .int .u64 m.wr])
  clear hd h3
  have H3 : Hid (In6 w0 w (((w.alloc (.cells #[.int .i64 m.size, .int .i64 m.count, .slice Ak m.kept.length ck, .slice Aw m.waits.length cw, .bool m.off, .int .i64 m.offs, .int .i64 m.fuse, .int .u64 m.wr] 33)).alloc (.cells #[.int .i64 0, .int .i64 i, .int .u8 b, .bool long, .slice A zs.length cap] 39)).alloc (.cells #[.int .i64 0, .int .i64 0, .slice none 0 0, .slice none 0 0, .bool false, .int .i64 0, .int .i64 0, .int .u64 0] 33)) a mk mw s ⟨0, i, b, long, A, cap, zs⟩ #[.int .i64 m.size, .int .i64 m.count, .slice Ak m.kept.length ck, .slice Aw m.waits.length cw, .bool m.off, .int .i64 m.offs, .int .i64 m.fuse, .int .u64 m.wr]) := H3
  go_enter Try.func13, Try.ntmps13
  go_wp2_with (first
    | (go_at_call 18; refine (GY.out _).mono ?_; rintro e w4 ⟨v4, rfl, own4, hb4⟩; obtain ⟨gb, cb, hve, hg1, hg2, hg3⟩ := own4.form hx2; subst hve
       have DG := (H3.out.d.d.mono (J := fun g => g ≠ gb) (fun g hg _ => by omega)).below hb4
       have J4 := In6.below H3.out hb4
       have hz := H3.out.z.lt
       have own4 : Own w4 w.heap.size 5 .u8 (.slice (some ⟨gb, 0, none⟩) X.length cb) X := own4.mono H3.out.t.size
       have hh4 : Holds w4 w4.heap.size .u8 (some ⟨gb, 0, none⟩) X := by
         obtain ⟨A9, c9, he9, -, -, hh9⟩ := own4.opened
         injection he9 with e1 e2 e3
         subst e1
         exact hh9
       have kc := conv_bytes (P := Try.prog) Try.underlying37 Try.underlying5 Try.underlying9 w4 (some ⟨gb, 0, none⟩) X cb _ hh4
       have hgz : w.heap.size + 1 + 1 < gb := by omega
       have y1 : w4.cell? ⟨w.heap.size + 1, 1, none⟩ = some (.int .i64 i) := J4.y.cell 1
       clear H3 hb4 hz hg1)
    | (have _t := y1; go_at_call 19; refine (GO.out _ _ _ DG hg2 hh4).mono ?_; rintro e w5 ⟨rfl, D5, T5⟩
       have R5 : Wr6 w0 w w5 a mk mw sb ⟨0, i, b, long, A, cap, zs⟩ #[.int .i64 m.size, .int .i64 m.count, .slice Ak m.kept.length ck, .slice Aw m.waits.length cw, .bool m.off, .int .i64 m.offs, .int .i64 m.fuse, .int .u64 m.wr] w.heap.size gb X.length cb X := ⟨J4.turn D5 T5, D5, DG.own T5 own4 (by decide), rfl, hgz⟩
       clear _t y1 kc J4 DG own4 hh4 D5 T5))
  have HN : Hid (X.length ≤ 4097) := Lib.hid hx1
  have HR5 := Lib.hid R5
  clear R5 hg2 hgz hx2 GO GY
  generalize X.length = N at *
  go_loopw [11] (fun q wr => ∃ (j : Nat) (ys : List Int), j ≤ N ∧ q = .int .i64 j ∧ Wr6 w0 w wr a mk mw sb ⟨0, i, b, long, A, cap, zs⟩ #[.int .i64 m.size, .int .i64 m.count, .slice Ak m.kept.length ck, .slice Aw m.waits.length cw, .bool m.off, .int .i64 m.offs, .int .i64 m.fuse, .int .u64 m.wr] w.heap.size gb N cb ys) (fun q _ => N - (intOf q).toNat)
  case atStart => exact ⟨0, _, Nat.zero_le _, rfl, HR5.out⟩
  case round =>
    obtain ⟨j, ys, hj, rfl, R⟩ := hrel
    clear HR5
    by_cases hlt : j < N
    · have d0 : decide ((j : Int) < (N : Int)) = true := decide_eq_true (by omega)
      have hjl : j < ys.length := by rw [← R.n]; exact hlt
      have q1 := R.own.cellAt R.n hjl
      have q2 := R.own.frozenAt R.n j
      have R2 := R.next j
      obtain ⟨zs2, R2⟩ := R2
      have HR2 := Lib.hid R2
      clear R R2 hjl
      go_wp2_with fail
      go_roundw
      case rel => exact ⟨j + 1, zs2, by omega, by go_num, HR2.out⟩
      case measure => simp [intOf]; omega
    · have d0 : decide ((j : Int) < (N : Int)) = false := decide_eq_false (by omega)
      have J4 := R.j
      have RV4 := HR.out _ J4.t
      have y1 : wr.cell? ⟨w.heap.size + 1, 1, none⟩ = some (.int .i64 i) := J4.y.cell 1
      clear R
      go_wp2_with (first
        | (have _t := J4; refine wpList_load_midV (by rfl) _ _ rfl w.heap.size 0 rfl [.int .i64 m.size, .int .i64 m.count, .slice Ak m.kept.length ck, .slice Aw m.waits.length cw, .bool m.off, .int .i64 m.offs, .int .i64 m.fuse, .int .u64 m.wr] (block_range J4.x) Try.underlying33 rfl (by kernel_rfl) ?_)
        | (have _t := RV4; go_at_call 26; refine (GD.out _ _ RV4).mono ?_; rintro e w7 ⟨v7, rfl, hv7, hb7⟩; have J7 := J4.below hb7; obtain ⟨Ak7, ck7, Aw7, cw7, hve, hr7⟩ := hv7; have RV7 : RDv w7 (.agg (dCells Ak7 ck7 Aw7 cw7 mb)) mb := ⟨Ak7, ck7, Aw7, cw7, rfl, hr7⟩; subst hve; clear _t J4 RV4 y1; unfold dCells))
      have B8 : Below w7.heap.size w7 (w7.alloc (.cells #[.int .i64 mb.size, .int .i64 mb.count, .slice Ak7 mb.kept.length ck7, .slice Aw7 mb.waits.length cw7, .bool mb.off, .int .i64 mb.offs, .int .i64 mb.fuse, .int .u64 mb.wr] 33)) := (Below.refl _ _).alloc (Nat.le_refl _) _
      have X8 : Block (w7.alloc (.cells #[.int .i64 mb.size, .int .i64 mb.count, .slice Ak7 mb.kept.length ck7, .slice Aw7 mb.waits.length cw7, .bool mb.off, .int .i64 mb.offs, .int .i64 mb.fuse, .int .u64 mb.wr] 33)) w7.heap.size 33 #[.int .i64 mb.size, .int .i64 mb.count, .slice Ak7 mb.kept.length ck7, .slice Aw7 mb.waits.length cw7, .bool mb.off, .int .i64 mb.offs, .int .i64 mb.fuse, .int .u64 mb.wr] := Block.new w7 _ _
      have J8 := J7.below B8
      have RV8 := RV7.below B8
      have Z8 := J8.z
      generalize w7.alloc (.cells #[.int .i64 mb.size, .int .i64 mb.count, .slice Ak7 mb.kept.length ck7, .slice Aw7 mb.waits.length cw7, .bool mb.off, .int .i64 mb.offs, .int .i64 mb.fuse, .int .u64 mb.wr] 33) = w8 at *
      clear J7 RV7 B8
      generalize w7.heap.size = K8 at *
      refine wp_region_still_tail 5 (by kernel_rfl) (by kernel_rfl) ?_
      simp only [List.take_succ_cons, List.take_zero, List.drop_succ_cons, List.drop_zero]
      still_step
      still_step
      still_step
      refine wpStill_step (fun K9 hK9 => ?_)
      refine still_load_row (by rfl) 33 _ (by rfl) K8 0 (by rfl) [.int .i64 mb.size, .int .i64 mb.count, .slice Ak7 mb.kept.length ck7, .slice Aw7 mb.waits.length cw7, .bool mb.off, .int .i64 mb.offs, .int .i64 mb.fuse, .int .u64 mb.wr] _ (by exact block_range X8) Try.underlying33 (by rfl) (by kernel_rfl) ?_
      refine hK9 _ ?_
      clear hK9 K9
      still_step
      refine wpStill_nil ?_
      refine wpList_store_blk (w := w8.drew) (cs := zD) rfl _ _ _ rfl (ds := (dCells Ak7 ck7 Aw7 cw7 mb).toList) (by exact Z8) rfl rfl rfl (by kernel_rfl) (dCells_one _ _ _ _ _) ?_
      intro w9 X9 g9
      have g9 : w8.grownBy w9 (some (w.heap.size + 1 + 1)) := ⟨g9.os, g9.tape, g9.output, g9.size, g9.block⟩
      try simp only [Act.put]
      go_wp2_with fail
      exact bodyPost_ret (v := .tuple #[.bool (E == F), .agg (dCells Ak7 ck7 Aw7 cw7 mb)]) (results_tmp_row rfl _ _ (w.heap.size + 1 + 1) 33 _ (0, 0) _ _ rfl rfl X9 Try.underlying33 rfl (by kernel_rfl)) rfl (J8.done X9 g9 RV8 HG.out)
end Go.Proofs.Ytfngmdojogdodaa.Sec
