/-
  Layer 6, sector: within a step of both devices; Fuse, Off of both: contracts. Conditions: as each theorem names.
-/
import Derived.Test.YtfngmdojogdodaaSeO
namespace Go.Proofs.Ytfngmdojogdodaa.Sec
open Go.ChangeShapes Go.WideShapes Go.ChangeAt Go.RowKit Go.Proofs.Ytfngmdojogdodaa.Kit

section
variable {w w' : World} {I : Nat → Prop} {a mk mw : Nat} {s : Dv}
theorem DvAt.not_text (h : DvAt w I a mk mw s) {g o : Nat} {z : ByteArray} (hg : w.cell? ⟨g, o, none⟩ = some (.string z)) : ¬ DSet a mk mw g := by
  obtain ⟨cs, t, f, h1, h2⟩ := Sort.cells_of_cell? hg
  rintro (rfl | rfl | rfl)
  · rw [h.blk.cell] at hg
    have := List.mem_of_getElem? (by rw [← Array.getElem?_toList] at hg; exact hg)
    unfold Dv.cells at this
    simp only [List.mem_cons, List.not_mem_nil, or_false] at this
    rcases this with e | e | e | e | e | e | e | e <;> cases e
  · exact h.k.no_row _ _ _ h1
  · exact h.wt.no_row _ _ _ h1
theorem HoldsF.dset (h : DvAt w I a mk mw s) (t : TurnsIn (DSet a mk mw) w w') {B : Nat} {A : Option Addr} {l : Sl} (hf : HoldsF w B A l) (hB : B ≤ w.heap.size) : HoldsF w' B A l := by
  intro hx
  obtain ⟨b, off, e, hb, hc⟩ := hf hx
  refine ⟨b, off, e, hb, fun j p hj i u hu => ?_⟩
  have h1 := hc 0 (l[0]'hx) (List.getElem?_eq_getElem hx) 1 _ rfl
  exact (World.cell?_of_block (w := w) (a := ⟨b, _, none⟩) (t.block b (by omega) (h.not_text h1))).trans (hc j p hj i u hu)
theorem RDv.dset (h : DvAt w I a mk mw s) (t : TurnsIn (DSet a mk mw) w w') {v : Value} {m : Dv} (hr : RDv w v m) : RDv w' v m := by
  obtain ⟨Ak, ck, Aw, cw, e, h1, h2, r⟩ := hr
  exact ⟨Ak, ck, Aw, cw, e, (h1.dset h t (Nat.le_refl _)).more t.size, (h2.dset h t (Nat.le_refl _)).more t.size, r⟩
theorem Block.dset (h : DvAt w I a mk mw s) (t : TurnsIn (DSet a mk mw) w w') {g : Nat} {ty : TypeId} {cs : Array Value} (X : Block w g ty cs) (ht : ty ≠ 57) : Block w' g ty cs := X.out t (h.not_cells X ht)
/-- A block of another type turns, and the device stays. -/
theorem DvAt.beside {g : Nat} {ty : TypeId} {cs : Array Value} (h : DvAt w I a mk mw s) (X : Block w g ty cs) (ht : ty ≠ 57) (hu : ty ≠ 5) (t : TurnsIn (fun b => b = g) w w') : DvAt w' I a mk mw s := by
  have hn := h.not_cells X ht
  exact h.out t (fun e => hn (Or.inl e.symm)) (fun e => hn (Or.inr (Or.inl e.symm))) (fun e => hn (Or.inr (Or.inr e.symm))) (fun b hb _ cs' f e => by
    subst hb
    unfold Block at X
    rw [X] at e
    injection e with e
    injection e with _ e _
    exact hu e)
end

/-- Within a step: both boxes and the result's cell lie behind the world that was called in. -/
structure In6 (w0 w W : World) (a mk mw : Nat) (s : Dv) (o : Step6) (cs : Array Value) : Prop where
  d : Dev w0 W a mk mw s
  t : TurnsIn (DSet a mk mw) w W
  x : Block W w.heap.size 33 cs
  y : Block W (w.heap.size + 1) 39 o.cells.toArray
  z : Block W (w.heap.size + 1 + 1) 33 zD
  g : w0.heap.size ≤ w.heap.size

section
variable {w0 w W W' : World} {a mk mw : Nat} {s s' : Dv} {o : Step6} {cs cs' : Array Value}
theorem In6.start (h : Dev w0 w a mk mw s) (o : Step6) (cs : Array Value) : In6 w0 w (((w.alloc (.cells cs 33)).alloc (.cells o.cells.toArray 39)).alloc (.cells zD 33)) a mk mw s o cs := by
  have b3 : Below w.heap.size w (((w.alloc (.cells cs 33)).alloc (.cells o.cells.toArray 39)).alloc (.cells zD 33)) := ((below_two w _ _)).alloc (by simp; omega) _
  refine ⟨h.below b3, .ofNew b3, ((Block.new w _ cs).alloc _).alloc _, (block_two w _ _ _).alloc _, ?_, h.b.size⟩
  have := Block.new ((w.alloc (.cells cs 33)).alloc (.cells o.cells.toArray 39)) 33 zD
  rwa [show ((w.alloc (.cells cs 33)).alloc (.cells o.cells.toArray 39)).heap.size = w.heap.size + 1 + 1 by simp] at this
theorem In6.below (h : In6 w0 w W a mk mw s o cs) (hb : Below W.heap.size W W') : In6 w0 w W' a mk mw s o cs :=
  ⟨h.d.below hb, h.t.trans (.ofNew hb), h.x.below hb h.x.lt, h.y.below hb h.y.lt, h.z.below hb h.z.lt, h.g⟩
theorem In6.turn (h : In6 w0 w W a mk mw s o cs) {I : Nat → Prop} (hd : DvAt W' I a mk mw s') (t : TurnsIn (DSet a mk mw) W W') : In6 w0 w W' a mk mw s' o cs :=
  ⟨h.d.turn hd t, h.t.trans t, Block.dset h.d.d t h.x (by decide), Block.dset h.d.d t h.y (by decide), Block.dset h.d.d t h.z (by decide), h.g⟩
theorem In6.moves (h : In6 w0 w W a mk mw s o cs) {v : Value} {f : Nat} {args : Array Value} (c : Calls Try.prog f args W (Leaves (fun _ => True) a mk mw W s' v)) : Calls Try.prog f args W fun e W' => e = .returned v ∧ In6 w0 w W' a mk mw s' o cs :=
  c.mono fun _ _ ⟨e, d, t⟩ => ⟨e, h.turn d t⟩
theorem In6.set_ (h : In6 w0 w W a mk mw s o cs) (i : Nat) (u : Value) : In6 w0 w (W.setCell ⟨w.heap.size, i, none⟩ u) a mk mw s o (cs.setIfInBounds i u) := by
  have t : TurnsIn (fun b => b = w.heap.size) W (W.setCell ⟨w.heap.size, i, none⟩ u) := TurnsIn.setCell (S := fun b => b = w.heap.size) (p := ⟨w.heap.size, i, none⟩) (TurnsIn.refl _ W) (Or.inl rfl) u
  have hg := h.g
  exact ⟨⟨h.d.d.beside h.x (by decide) (by decide) t, h.d.b.trans (t.toBelow h.d.b.size (fun b hb e => by omega)), h.d.ga, h.d.gk, h.d.gw⟩, h.t.setCell (Or.inr (Nat.le_refl _)) u, h.x.set_ i u, h.y.far (by show w.heap.size + 1 ≠ w.heap.size; omega) u, h.z.far (by show w.heap.size + 1 + 1 ≠ w.heap.size; omega) u, h.g⟩
theorem In6.drewN (h : In6 w0 w W a mk mw s o cs) (n : Nat) : In6 w0 w (W.drewN n) a mk mw s o cs := h.below (below_draws (Below.refl _ _) n)
end

/-- What a step of both leaves. -/
def Does (w0 w : World) (a mk mw : Nat) (s m : Dv) (good : Prop) (e : Ending) (w' : World) : Prop :=
  ∃ (r : Bool) (v : Value), e = .returned (.tuple #[.bool r, v]) ∧ (good → r = true) ∧ Dev w0 w' a mk mw s ∧ RDv w' v m ∧ TurnsIn (DSet a mk mw) w w'
/-- The result is stored. -/
theorem In6.done {w0 w W W' : World} {a mk mw : Nat} {s m : Dv} {o : Step6} {cs : Array Value} {v : Value} {r : Bool} {good : Prop} {ds : Array Value} (h : In6 w0 w W a mk mw s o cs) (_ : Block W' (w.heap.size + 1 + 1) 33 ds) (g : W.grownBy W' (some (w.heap.size + 1 + 1))) (hr : RDv W v m) (hg : good → r = true) :
    Does w0 w a mk mw s m good (.returned (.tuple #[.bool r, v])) W' := by
  have t : TurnsIn (fun b => b = w.heap.size + 1 + 1) W W' := .ofGrown g fun b hb => by injection hb with hb; exact hb.symm
  have hw := h.g
  exact ⟨r, v, rfl, hg, ⟨h.d.d.beside h.z (by decide) (by decide) t, h.d.b.trans (t.toBelow h.d.b.size (fun b hb e => by omega)), h.d.ga, h.d.gk, h.d.gw⟩, hr.kept h.z zD_noText g, h.t.then_ t fun b hb e => by omega⟩

set_option maxRecDepth 100000 in
set_option maxHeartbeats 6400000 in
theorem does_off (w0 w : World) (a mk mw : Nat) (s m : Dv) (o : Step6) (dv : Value) (hd : Dev w0 w a mk mw s) (hr : RDv w dv m) (hk : o.k = 3) (hs : s.offs ≤ 1000000000) (hm : 0 ≤ m.offs ∧ m.offs ≤ 1000000000) :
    Calls Try.prog 13 #[.pointer (some ⟨a, 0, none⟩), dv, .agg o.cells.toArray] w (Does w0 w a mk mw s.down m.down (s = m)) := by
  have HR := Lib.hid (fun W (t : TurnsIn (DSet a mk mw) w W) => hr.dset hd.d t)
  have h3 := Lib.hid (fun cs => In6.start hd o cs)
  obtain ⟨Ak, ck, Aw, cw, rfl, -⟩ := hr
  obtain ⟨k, i, b, long, A, cap, zs⟩ := o
  simp only at hk
  subst hk
  unfold Step6.cells zD at h3
  unfold dCells at HR ⊢
  unfold Step6.cells
  have GO := Lib.hid (fun (W : World) (h : Dev w0 W a mk mw s) => off_any _ a mk mw s W h.d hs)
  have GD := Lib.hid (fun (v : Value) (W : World) (h : RDv W v m) => rdown_any v m W h hm)
  have H3 := Lib.hid (h3.out #[.int .i64 m.size, .int .i64 m.count, .slice Ak m.kept.length ck, .slice Aw m.waits.length cw, .bool m.off, .int .i64 m.offs, .int .i64 m.fuse, .int .u64 m.wr])
  clear hd h3 hs hm
  go_enter Try.func13, Try.ntmps13
  go_wp2_with (first
    | (go_at_call 25; refine (In6.moves H3.out (GO.out _ H3.out.d)).mono ?_; rintro e w4 ⟨rfl, J4⟩; have RV4 := HR.out _ J4.t; clear H3)
    | (have _t := J4; refine wpList_load_midV (by rfl) _ _ rfl w.heap.size 0 rfl [.int .i64 m.size, .int .i64 m.count, .slice Ak m.kept.length ck, .slice Aw m.waits.length cw, .bool m.off, .int .i64 m.offs, .int .i64 m.fuse, .int .u64 m.wr] (block_range J4.x) Try.underlying33 rfl (by kernel_rfl) ?_)
    | (have _t := RV4; go_at_call 28; refine (GD.out _ _ RV4).mono ?_; rintro e w7 ⟨v7, rfl, hv7, hb7⟩; have J7 := J4.below hb7; obtain ⟨Ak7, ck7, Aw7, cw7, hve, hr7⟩ := hv7; have RV7 : RDv w7 (.agg (dCells Ak7 ck7 Aw7 cw7 m.down)) m.down := ⟨Ak7, ck7, Aw7, cw7, rfl, hr7⟩; subst hve; clear _t J4 RV4)
    | (have _t := J7; refine wpList_store_blk (cs := zD) rfl _ _ _ rfl (ds := (dCells Ak7 ck7 Aw7 cw7 m.down).toList) (by exact J7.z) rfl rfl rfl (by kernel_rfl) (dCells_one _ _ _ _ _) ?_; clear _t; intro w8 X8 g8))
  try simp only [Act.put]
  exact bodyPost_ret (v := .tuple #[.bool true, .agg (dCells Ak7 ck7 Aw7 cw7 m.down)]) (results_tmp_row rfl _ _ (w.heap.size + 1 + 1) 33 _ (0, 0) _ _ rfl rfl X8 Try.underlying33 rfl (by kernel_rfl)) rfl (J7.done X8 g8 RV7 (fun _ => rfl))
end Go.Proofs.Ytfngmdojogdodaa.Sec
