/-
  Layer 7, part: what stands between the law's steps: both devices, the part, the region. Conditions: as each theorem names.
-/
import Derived.Test.YtchbgmpkdkecgaaPaM
import Derived.Test.YtchbgmpkdkecgaaPaJ
import Derived.Test.YtchbgmpkdkecgaaSeN
namespace Go.Proofs.Ytchbgmpkdkecgaa.Sec
open Go.ChangeShapes Go.WideShapes Go.ChangeAt Go.RowKit Go.Proofs.Ytchbgmpkdkecgaa.Kit

section
variable {w w' : World} {I : Nat → Prop} {a mk mw : Nat} {s : Dv}
theorem DvAt.not_text (h : DvAt w I a mk mw s) {g o : Nat} {z : ByteArray} (hg : w.cell? ⟨g, o, none⟩ = some (.string z)) : ¬ DSet a mk mw g := by
  obtain ⟨cs, t, f, h1, h2⟩ := Sort.cells_of_cell? hg
  rintro (rfl | rfl | rfl)
  · rw [h.blk.cell] at hg
    have := List.mem_of_getElem? (by rw [← Array.getElem?_toList] at hg; exact hg)
    unfold Dv.cells at this
    simp only [List.mem_cons, List.not_mem_nil, or_false] at this
    rcases this with e | e | e | e | e | e | e | e <;> cases e
  · exact h.k.no_row _ _ _ h1
  · exact h.wt.no_row _ _ _ h1
theorem HoldsF.dset (h : DvAt w I a mk mw s) (t : TurnsIn (DSet a mk mw) w w') {B : Nat} {A : Option Addr} {l : Sl} (hf : HoldsF w B A l) (hB : B ≤ w.heap.size) : HoldsF w' B A l := by
  intro hx
  obtain ⟨b, off, e, hb, hc⟩ := hf hx
  refine ⟨b, off, e, hb, fun j p hj i u hu => ?_⟩
  have h1 := hc 0 (l[0]'hx) (List.getElem?_eq_getElem hx) 1 _ rfl
  exact (World.cell?_of_block (w := w) (a := ⟨b, _, none⟩) (t.block b (by omega) (h.not_text h1))).trans (hc j p hj i u hu)
theorem RDv.dset (h : DvAt w I a mk mw s) (t : TurnsIn (DSet a mk mw) w w') {v : Value} {m : Dv} (hr : RDv w v m) : RDv w' v m := by
  obtain ⟨Ak, ck, Aw, cw, e, h1, h2, r⟩ := hr
  exact ⟨Ak, ck, Aw, cw, e, (h1.dset h t (Nat.le_refl _)).more t.size, (h2.dset h t (Nat.le_refl _)).more t.size, r⟩
theorem Block.dset (h : DvAt w I a mk mw s) (t : TurnsIn (DSet a mk mw) w w') {g : Nat} {ty : TypeId} {cs : Array Value} (X : Block w g ty cs) (ht : ty ≠ 72) : Block w' g ty cs := X.out t (h.not_cells X ht)
/-- A block of another type turns, and the device stays. -/
theorem DvAt.beside {g : Nat} {ty : TypeId} {cs : Array Value} (h : DvAt w I a mk mw s) (X : Block w g ty cs) (ht : ty ≠ 72) (hu : ty ≠ 5) (t : TurnsIn (fun b => b = g) w w') : DvAt w' I a mk mw s := by
  have hn := h.not_cells X ht
  exact h.out t (fun e => hn (Or.inl e.symm)) (fun e => hn (Or.inr (Or.inl e.symm))) (fun e => hn (Or.inr (Or.inr e.symm))) (fun b hb _ cs' f e => by
    subst hb
    unfold Block at X
    rw [X] at e
    injection e with e
    injection e with _ e _
    exact hu e)
end

/-- A whole row stays while another block grows. -/
theorem Dev.grown {w0 w w' : World} {a mk mw : Nat} {s : Dv} (h : Dev w0 w a mk mw s) {g : Nat} {ty : TypeId} {cs : Array Value} (X : Block w g ty cs) (ht : ty ≠ 72) (hu : ty ≠ 5) (hg : w0.heap.size ≤ g) (gr : w.grownBy w' (some g)) : Dev w0 w' a mk mw s := by
  have t : TurnsIn (fun b => b = g) w w' := .ofGrown gr fun b hb => by injection hb with hb; exact hb.symm
  exact ⟨h.d.beside X ht hu t, h.b.trans (t.toBelow h.b.size (fun b hb e => by omega)), h.ga, h.gk, h.gw⟩

/-- The document's fuse is set in its box. -/
theorem fuse_row {W : World} {g : Nat} {Ak : Option Addr} {ck : Nat} {Aw : Option Addr} {cw : Nat} {m : Dv} {cs : Array Value} (h : RDv W (.agg #[.int .i64 m.size, .int .i64 m.count, .slice Ak m.kept.length ck, .slice Aw m.waits.length cw, .bool m.off, .int .i64 m.offs, .int .i64 m.fuse, .int .u64 m.wr]) m)
    (X : Block W g 49 cs) (hc : cs = dCells Ak ck Aw cw m) (n : Int) : RDv (W.setCell ⟨g, 6, none⟩ (.int .i64 n)) (.agg (dCells Ak ck Aw cw { m with fuse := n })) { m with fuse := n } := by
  have t : TurnsIn (fun b => b = g) W (W.setCell ⟨g, 6, none⟩ (.int .i64 n)) := TurnsIn.setCell (S := fun b => b = g) (p := ⟨g, 6, none⟩) (TurnsIn.refl _ W) (Or.inl rfl) _
  obtain ⟨Ak2, ck2, Aw2, cw2, e, h1, h2, r⟩ := h.turn X (by rw [hc]; exact dCells_noText _ _ _ _ _) t
  injection e with e
  unfold dCells at e
  simp at e
  obtain ⟨⟨rfl, rfl⟩, rfl, rfl⟩ := e
  exact ⟨Ak, ck, Aw, cw, rfl, h1, h2, r⟩

end Go.Proofs.Ytchbgmpkdkecgaa.Sec
namespace Go.Proofs.Ytchbgmpkdkecgaa.Pt
open Go.ChangeShapes Go.WideShapes Go.ChangeAt Go.RowKit Go.Proofs.Ytchbgmpkdkecgaa.Kit Go.Proofs.Ytchbgmpkdkecgaa.Sec

theorem pwrite_one {s : Dv} {F : Int} {T : Nat} {x : Int} {bs : List Int} {r t : Int × Dv} (h : PWrite s F T x bs r) (g : PWrite s F T x bs t) : r = t := by
  unfold PWrite at h g
  split at h
  · rw [if_pos (by assumption)] at g
    rw [h, g]
  · rw [if_neg (by assumption)] at g
    split at h
    · rw [if_pos (by assumption)] at g
      exact writes_one h g
    · rw [if_neg (by assumption)] at g
      rw [h, g]
theorem pread_one {s : Dv} {F : Int} {T : Nat} {x n : Int} {r t : List Int × Int} (h : PRead s F T x n r) (g : PRead s F T x n t) : r = t := by
  unfold PRead at h g
  split at h
  · rw [if_pos (by assumption)] at g
    exact reads_one h g
  · rw [if_neg (by assumption)] at g
    rw [h, g]
theorem manyP_le {n : Nat} (hn : 1 ≤ n) (bs : List Int) : manyP n bs ≤ bs.length := by
  unfold manyP
  rw [Nat.div_le_iff_le_mul_add_pred (by omega)]
  have : bs.length * 1 ≤ n * bs.length := by rw [Nat.mul_comm n]; exact Nat.mul_le_mul_left _ hn
  omega
/-- A step moves the counters little, and neither size nor count. -/
def Near (s t : Dv) : Prop := t.offs ≤ s.offs + 2001 ∧ t.wr ≤ s.wr + 2001 ∧ t.size = s.size ∧ t.count = s.count
theorem Near.refl (s : Dv) : Near s s := ⟨by omega, by omega, rfl, rfl⟩
theorem wrS_near2 (s : Dv) (i : Int) (bs : List Int) (k : Nat) (hk : k ≤ 2001) : Near s (wrS s i bs k) := by
  obtain ⟨h1, h2, h3, h4⟩ := wrS_near s i bs k
  exact ⟨by omega, by omega, h3, h4⟩
theorem pwrite_near {s : Dv} {F : Int} {T : Nat} {x : Int} {bs : List Int} {r : Int × Dv} (hs : 1 ≤ s.size) (hb : bs.length ≤ 2000) (h : PWrite s F T x bs r) : Near s r.2 := by
  have hm := manyP_le hs bs
  unfold PWrite at h
  split at h
  · rw [h]
    exact Near.refl s
  · split at h
    · rcases h with ⟨k, hk, _, _, rfl⟩ | ⟨_, rfl⟩
      · exact wrS_near2 s _ bs _ (by omega)
      · exact wrS_near2 s _ bs _ (by omega)
    · rw [h]
      exact Near.refl s
theorem down_near (s : Dv) : s.down.offs ≤ s.offs + 1 ∧ s.down.wr = s.wr ∧ s.down.size = s.size ∧ s.down.count = s.count := by
  unfold Dv.down
  split
  · exact ⟨by omega, rfl, rfl, rfl⟩
  · exact ⟨Int.le_refl _, rfl, rfl, rfl⟩
theorem back_near (s : Dv) (zs : List Int) : Near s (s.back zs) := by
  obtain ⟨h1, h2, h3, h4⟩ := down_near s
  rw [back_form]
  exact ⟨by show s.down.offs ≤ _; omega, by show s.down.wr ≤ _; omega, h3, h4⟩
theorem fused_near (s : Dv) (n : Int) : Near s (s.fused n) := ⟨by show s.offs ≤ _; omega, by show s.wr ≤ _; omega, rfl, rfl⟩
theorem Lies.near {s t : Dv} {F C : Int} {T : Nat} (h : Lies s F C T) (n : Near s t) : Lies t F C T :=
  ⟨h.f0, h.c1, by rw [n.2.2.2]; exact h.fc, by rw [n.2.2.1]; exact h.t⟩

theorem grown_set (w : World) (g i : Nat) (u : Value) : w.grownBy (w.setCell ⟨g, i, none⟩ u) (some g) := by
  have t : TurnsIn (fun b => b = g) w (w.setCell ⟨g, i, none⟩ u) := TurnsIn.setCell (S := fun b => b = g) (p := ⟨g, i, none⟩) (TurnsIn.refl _ w) (Or.inl rfl) u
  exact ⟨t.os, t.tape, t.output, t.size, fun j hj hne => t.block j hj (fun e => hne (by rw [e]))⟩
/-- Between steps: the program's device s, the document's m in a block of the call's own, the part and the region. -/
structure Plays7 (w0 w : World) (a mk mw p g q : Nat) (F C : Int) (s m : Dv) (cs : Array Value) : Prop where
  d : Dev w0 w a mk mw s
  p : PartAt w p a F C
  x : Block w g 49 cs
  y : Block w q 25 #[.int .i64 F, .int .i64 C]
  r : RDv w (.agg cs) m
  g : w0.heap.size ≤ g
section
variable {w0 w w' : World} {a mk mw p g q : Nat} {F C : Int} {s m s' : Dv} {cs cs' : Array Value}
theorem Plays7.below (h : Plays7 w0 w a mk mw p g q F C s m cs) (hb : Below w.heap.size w w') : Plays7 w0 w' a mk mw p g q F C s m cs :=
  ⟨h.d.below hb, h.p.below hb (Block.lt h.p), h.x.below hb h.x.lt, h.y.below hb h.y.lt, h.r.below hb, h.g⟩
theorem Plays7.turn (h : Plays7 w0 w a mk mw p g q F C s m cs) {I : Nat → Prop} (hd : DvAt w' I a mk mw s') (t : TurnsIn (DSet a mk mw) w w') : Plays7 w0 w' a mk mw p g q F C s' m cs :=
  ⟨h.d.turn hd t, Block.dset h.d.d t h.p (by decide), Block.dset h.d.d t h.x (by decide), Block.dset h.d.d t h.y (by decide), RDv.dset h.d.d t h.r, h.g⟩
theorem block_ne {w : World} {g1 g2 : Nat} {t1 t2 : TypeId} {c1 c2 : Array Value} (h1 : Block w g1 t1 c1) (h2 : Block w g2 t2 c2) (ht : t1 ≠ t2) : g1 ≠ g2 := by
  rintro rfl
  unfold Block at h1 h2
  rw [h1] at h2
  injection h2 with h2
  injection h2 with _ e _
  exact ht e
/-- The document's next device is stored into its block. -/
theorem Plays7.store (h : Plays7 w0 w a mk mw p g q F C s m cs) {m' : Dv} (hm : RDv w' (.agg cs') m') (X : Block w' g 49 cs') (gr : w.grownBy w' (some g)) : Plays7 w0 w' a mk mw p g q F C s m' cs' :=
  ⟨h.d.grown h.x (by decide) (by decide) h.g gr, h.p.grown gr (by intro e; injection e with e; exact block_ne h.x h.p (by decide) e), X, h.y.grown gr (by intro e; injection e with e; exact block_ne h.x h.y (by decide) e), hm, h.g⟩
end
end Go.Proofs.Ytchbgmpkdkecgaa.Pt
