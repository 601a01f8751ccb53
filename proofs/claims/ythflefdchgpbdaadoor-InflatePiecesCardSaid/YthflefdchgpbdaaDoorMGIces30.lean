/-
  Layer 13, inflate: the document's symbols: a contract. Conditions: as each theorem names.
  Layer 13, inflate: the document's symbols: a contract. Conditions: as each theorem names.
  Layer 13, inflate: the document's block: a contract. Conditions: as each theorem names.
  Layer 13, inflate: the document's block where no bits are, and any block: contracts. Conditions: as each theorem names.
-/
import Derived.Test.YthflefdchgpbdaaDoorMIrG
import Derived.Test.YthflefdchgpbdaaDoorMGIces29
import Derived.Test.YthflefdchgpbdaaDoorMIrS
import Derived.Test.YthflefdchgpbdaaDoorMGIces25
namespace Go.Proofs.YthflefdchgpbdaaDoor.Inf
open Go.ChangeShapes Go.WideShapes Go.ChangeAt Go.RowKit Go.Proofs.YthflefdchgpbdaaDoor.Kit Go.Proofs.YthflefdchgpbdaaDoor.Bits Go.Proofs.YthflefdchgpbdaaDoor.Huf Go.Proofs.YthflefdchgpbdaaDoor.Df

theorem block_4 (w : World) (o p q : Obj) (t : TypeId) (cs : Array Value) : Block ((((w.alloc o).alloc p).alloc q).alloc (.cells cs t)) (w.heap.size + 1 + 1 + 1) t cs := by
  have := Block.new (((w.alloc o).alloc p).alloc q) t cs
  rwa [show (((w.alloc o).alloc p).alloc q).heap.size = w.heap.size + 1 + 1 + 1 by simp] at this
theorem below_4 (w : World) (o p q r : Obj) : Below w.heap.size w ((((w.alloc o).alloc p).alloc q).alloc r) := (below_3 w o p q).alloc (by simp; omega) _
theorem So.start4 {w : World} {AL : Option Addr} {bits : List Int} {cL : Nat} {most : Int} {d : DS} {Ao : Option Addr} {co : Nat} {A1 A2 A3 A4 : Option Addr} {n1 c1 c2 n3 c3 c4 : Nat}
    (o : Own w 0 5 .u8 (.slice Ao d.out.length co) d.out) (r : Rx w AL bits cL) (f : ∀ a, AL = some a → (Value.slice Ao d.out.length co).ownBlock ≠ some a.block) :
    So w ((((w.alloc (.cells #[.slice AL bits.length cL, .int .i64 (d.p : Int), .slice Ao d.out.length co, .int .i64 most, .int .i64 d.e] 43)).alloc (.cells #[.slice A1 n1 c1, .slice A2 n1 c2] 65)).alloc (.cells #[.slice A3 n3 c3, .slice A4 n3 c4] 65)).alloc (.cells #[.slice none 0 0, .int .i64 0, .slice none 0 0, .int .i64 0, .int .i64 0] 43)) AL bits cL most (.slice Ao d.out.length co) (w.heap.size + 1 + 1 + 1) d Ao co ∧
    Block ((((w.alloc (.cells #[.slice AL bits.length cL, .int .i64 (d.p : Int), .slice Ao d.out.length co, .int .i64 most, .int .i64 d.e] 43)).alloc (.cells #[.slice A1 n1 c1, .slice A2 n1 c2] 65)).alloc (.cells #[.slice A3 n3 c3, .slice A4 n3 c4] 65)).alloc (.cells #[.slice none 0 0, .int .i64 0, .slice none 0 0, .int .i64 0, .int .i64 0] 43)) (w.heap.size + 1) 65 #[.slice A1 n1 c1, .slice A2 n1 c2] ∧
    Block ((((w.alloc (.cells #[.slice AL bits.length cL, .int .i64 (d.p : Int), .slice Ao d.out.length co, .int .i64 most, .int .i64 d.e] 43)).alloc (.cells #[.slice A1 n1 c1, .slice A2 n1 c2] 65)).alloc (.cells #[.slice A3 n3 c3, .slice A4 n3 c4] 65)).alloc (.cells #[.slice none 0 0, .int .i64 0, .slice none 0 0, .int .i64 0, .int .i64 0] 43)) (w.heap.size + 1 + 1) 65 #[.slice A3 n3 c3, .slice A4 n3 c4] :=
  ⟨So.of (below_4 w _ _ _ _) ((((Block.new w _ _).alloc _).alloc _).alloc _) (block_4 w _ _ _ _ _) (by omega) o r f, ((block_2 w _ _ _).alloc _).alloc _, (block_3 w _ _ _ _).alloc _⟩
/-- A callee told more, its answer is stored over the box. -/
theorem So.after {w W W1 W2 : World} {AL : Option Addr} {bits : List Int} {cL : Nat} {most : Int} {v0 : Value} {gz : Nat} {d d' : DS} {Ao A' : Option Addr} {co c' : Nat} (h : So w W AL bits cL most v0 gz d Ao co)
    (o : Own W1 0 5 .u8 (.slice A' d'.out.length c') d'.out) (t : TurnsIn (fun b => (Value.slice Ao d.out.length co).ownBlock = some b) W W1) (n : Newer W (.slice Ao d.out.length co) (.slice A' d'.out.length c')) (g : W1.grownBy W2 (some w.heap.size))
    (hx : Block W2 w.heap.size 43 (sC AL bits.length cL (d'.p : Int) A' d'.out.length c' most d'.e)) : So w W2 AL bits cL most v0 gz d' A' c' := by
  have x1 := h.x.out t (h.o.ne_block h.x (by decide))
  have z1 := h.z.out t (h.o.ne_block h.z (by decide))
  have hb := o.ne_block x1 (by decide)
  have k := h.lt
  have kg := h.g
  have t1 : TurnsIn (fun b => v0.ownBlock = some b) w W1 := h.t.then_ t (fun b hb e => by
    rcases h.n with q | q
    · rw [← q]; exact e
    · have := q b e; omega)
  have r1 : Rx W1 AL bits cL := h.r.turn t (fun a ha => h.f a ha)
  refine ⟨t1.then_ (.ofGrown g (S := fun b => b = w.heap.size) fun b e => by injection e with e; exact e.symm) (fun b hb e => by omega), hx, z1.grown g (fun e => by injection e with e; omega), o.kept g (.inr hb), ?_, h.q, fun a ha => ?_, h.n.trans h.t.size n, h.g⟩
  · refine r1.turn (S := fun b => b = w.heap.size) (.ofGrown g fun b e => by injection e with e; exact e.symm) (fun a ha e => ?_)
    have := h.q a ha
    omega
  · have hq := h.q a ha
    exact n.apart (u := .slice (some a) 0 0) (g := a.block) rfl (by omega) (h.f a ha)
/-- A symbol's match, as the machine takes it. -/
theorem sym_end {most : Int} {b : List Int} {s : St} {d d1 m1 m2 m3 m4 m5 m6 m7 : DS} {x k dd j : Int} (h2 : s.ph = 2) (he : d.e = 0) (hp : d.p ≤ b.length) (ho : d.out = s.out) (h : symD s.ls b d = (x, d1)) (c : d1.e = 0) (hx : ¬ x < 256) (hx2 : x ≠ 256) (hM : MatchD s.ds b most d1 m1 m2 m3 m4 m5 m6 m7 (x - 257) k dd j) :
    ((matchEnd m7 d1.out (lens.getD (x - 257).toNat 0 + k) (dists.getD dd.toNat 0 + j)).e ≠ 0 → BlockTo most b s d.p s.last (matchEnd m7 d1.out (lens.getD (x - 257).toNat 0 + k) (dists.getD dd.toNat 0 + j))) ∧
    ((matchEnd m7 d1.out (lens.getD (x - 257).toNat 0 + k) (dists.getD dd.toNat 0 + j)).e = 0 → ∃ t, Reach most b s d.p t (matchEnd m7 d1.out (lens.getD (x - 257).toNat 0 + k) (dists.getD dd.toNat 0 + j)).p ∧ t.ph = 2 ∧ t.ls = s.ls ∧ t.ds = s.ds ∧ t.last = s.last ∧ t.out = (matchEnd m7 d1.out (lens.getD (x - 257).toNat 0 + k) (dists.getD dd.toNat 0 + j)).out ∧ m7.p ≤ b.length) := by
  have g := sym_goes h he hp
  obtain ⟨_, k2, k3⟩ := g.ok c
  have ol : d1.out = s.out := by rw [k2, ho]
  have g7 := match_goes c k3 hM.h1 hM.h2 hM.h3 hM.h4 hM.h5 hM.h6 hM.h7
  rw [ol] at g7
  obtain ⟨r1, r2⟩ := sym_match h2 he hp ho h c hx hx2 g7
  unfold matchEnd
  by_cases e : m7.e ≠ 0
  · rw [if_pos e]
    exact ⟨r1, fun c => absurd c e⟩
  · rw [if_neg e]
    refine ⟨fun c => absurd c e, fun c => ?_⟩
    obtain ⟨q1, q2⟩ := r2 c
    exact ⟨_, q1, h2, rfl, rfl, rfl, by rw [ol], q2⟩
end Go.Proofs.YthflefdchgpbdaaDoor.Inf

namespace Go.Proofs.YthflefdchgpbdaaDoor.Inf
open Go.ChangeShapes Go.WideShapes Go.ChangeAt Go.RowKit Go.Proofs.YthflefdchgpbdaaDoor.Kit Go.Proofs.YthflefdchgpbdaaDoor.Bits Go.Proofs.YthflefdchgpbdaaDoor.Huf Go.Proofs.YthflefdchgpbdaaDoor.Df

theorem numD_ge (k : Nat) (b : List Int) (d : DS) : d.p ≤ (numD k b d).2.p := by
  unfold numD
  split
  · exact Nat.le_refl _
  · split
    · exact Nat.le_refl _
    · simp only; omega
theorem symD_ge (l b : List Int) (d : DS) : d.p ≤ (symD l b d).2.p ∧ (d.e = 0 → (symD l b d).2.e = 0 → d.p < (symD l b d).2.p) := by
  unfold symD
  split
  · rename_i h
    exact ⟨Nat.le_refl _, fun e => absurd e h⟩
  · split
    · rename_i h
      have := told_le h
      exact ⟨by simp only; omega, fun _ _ => by simp only; omega⟩
    · exact ⟨Nat.le_refl _, fun _ e => by simp at e⟩
    · exact ⟨Nat.le_refl _, fun _ e => by simp at e⟩
theorem MatchD.ge {ds b : List Int} {most : Int} {d d1 d2 d3 d4 d5 d6 d7 : DS} {x k dd j : Int} (h : MatchD ds b most d d1 d2 d3 d4 d5 d6 d7 x k dd j) : d.p ≤ d7.p := by
  obtain ⟨h1, h2, h3, h4, h5, h6, h7⟩ := h
  have q1 := (failD_le (decide (28 < x)) 11 d).1
  rw [h1] at q1
  have q2 := numD_ge (lmore x).toNat b d1
  rw [h2] at q2
  have q3 := (symD_ge ds b d2).1
  rw [h3] at q3
  have q4 := (failD_le (decide (29 < dd)) 11 d3).1
  rw [h4] at q4
  have q5 := numD_ge (dmore dd).toNat b d4
  rw [h5] at q5
  have q6 := (failD_le (decide ((d.out.length : Int) < dists.getD dd.toNat 0 + j)) 11 d5).1
  rw [h6] at q6
  have q7 := (failD_le (decide (most - d.out.length < lens.getD x.toNat 0 + k)) 12 d6).1
  rw [h7] at q7
  simp only at q2 q3 q5
  omega
theorem matchEnd_p (d7 : DS) (out : List Int) (n far : Int) : (matchEnd d7 out n far).p = d7.p := by
  unfold matchEnd
  split <;> rfl

/-- How the document's symbols stand. -/
def SymAt (most : Int) (b : List Int) (s : St) (d di : DS) : Prop :=
  di.p ≤ b.length ∧ ((di.e = 0 ∧ ∃ t, Reach most b s d.p t di.p ∧ t.ph = 2 ∧ t.ls = s.ls ∧ t.ds = s.ds ∧ t.last = s.last ∧ di.out = t.out) ∨ (di.e ≠ 0 ∧ BlockTo most b s d.p s.last di))
section
variable {most : Int} {b : List Int} {s : St} {d di d1 d2 : DS} {x : Int}
theorem SymAt.begin (h2 : s.ph = 2) (he : d.e = 0) (hp : d.p ≤ b.length) (ho : d.out = s.out) : SymAt most b s d d := ⟨hp, .inl ⟨he, s, .refl, h2, rfl, rfl, rfl, ho⟩⟩
theorem SymAt.over (h : SymAt most b s d di) (he : di.e ≠ 0) : BlockTo most b s d.p s.last di := by
  obtain ⟨_, h | h⟩ := h
  · exact absurd h.1 he
  · exact h.2
theorem SymAt.bd (h : SymAt most b s d di) (he : di.e = 0) (hb : Bit b) (h8 : b.length % 8 = 0) (hp : d.p ≤ b.length) (hs : SOk most s d.p) : (di.out.length : Int) ≤ most := by
  obtain ⟨_, h | h⟩ := h
  · obtain ⟨_, t, r, _, _, _, _, ho⟩ := h
    rw [ho]
    exact (r.ok hb h8 hp hs).1.len
  · exact absurd he h.1
theorem SymAt.exit (h : SymAt most b s d di) (he : di.e = 0) (hs : symD s.ls b di = (x, d1)) (c : d1.e ≠ 0 ∨ x = 256) : BlockTo most b s d.p s.last d1 := by
  obtain ⟨hp, h | h⟩ := h
  · obtain ⟨_, t, r, t2, tl, td, ta, ho⟩ := h
    rw [← tl] at hs
    rw [← ta]
    refine BlockTo.more r ?_
    by_cases c1 : d1.e = 0
    · obtain rfl : x = 256 := by
        rcases c with c | c
        · exact absurd c1 c
        · exact c
      exact sym_closed t2 he hp ho hs c1
    · exact sym_wrong t2 he hp ho hs c1
  · exact absurd he h.1
theorem SymAt.lit (h : SymAt most b s d di) (he : di.e = 0) (hs : symD s.ls b di = (x, d1)) (c : d1.e = 0) (hx : x < 256) (hf : failD (decide (most ≤ (di.out.length : Int))) 12 d1 = d2) :
    (d2.e ≠ 0 → SymAt most b s d d2) ∧ (d2.e = 0 → SymAt most b s d { d2 with out := di.out ++ [x] }) ∧ di.p < d2.p := by
  obtain ⟨hp, h | h⟩ := h
  · obtain ⟨_, t, r, t2, tl, td, ta, ho⟩ := h
    have hge := (symD_ge s.ls b di).2 he
    rw [hs] at hge
    have hge := hge c
    have hpf := failD_le (decide (most ≤ (di.out.length : Int))) 12 d1
    rw [hf] at hpf
    have hle := symD_le (l := s.ls) (b := b) hp
    rw [hs] at hle
    simp only at hle hge
    rw [← tl] at hs
    rw [show di.out.length = d1.out.length by rw [hle.2]] at hf
    obtain ⟨k1, k2⟩ := sym_lit (most := most) t2 he hp ho hs c hx hf
    refine ⟨fun e => ⟨by rw [hpf.1]; exact hle.1, .inr ⟨e, ?_⟩⟩, fun e => ?_, by omega⟩
    · rw [← ta]; exact BlockTo.more r (k1 e)
    · obtain ⟨q1, q2, q3, q4⟩ := k2 e
      subst q1
      exact ⟨q4, .inl ⟨c, { t with out := t.out ++ [x] }, r.trans q2, t2, tl, td, ta, by rw [ho]⟩⟩
  · exact absurd he h.1
theorem SymAt.mat {m1 m2 m3 m4 m5 m6 m7 : DS} {kx : Nat} {k dd j : Int} (h : SymAt most b s d di) (he : di.e = 0) (hs : symD s.ls b di = (257 + (kx : Int), d1)) (c : d1.e = 0) (hM : MatchD s.ds b most d1 m1 m2 m3 m4 m5 m6 m7 (kx : Int) k dd j) :
    SymAt most b s d (matchEnd m7 d1.out (lens.getD kx 0 + k) (dists.getD dd.toNat 0 + j)) ∧ di.p < (matchEnd m7 d1.out (lens.getD kx 0 + k) (dists.getD dd.toNat 0 + j)).p := by
  obtain ⟨hp, h | h⟩ := h
  · obtain ⟨_, t, r, t2, tl, td, ta, ho⟩ := h
    have hge := (symD_ge s.ls b di).2 he
    rw [hs] at hge
    have hge := hge c
    have hm := hM.ge
    have hle := symD_le (l := s.ls) (b := b) hp
    rw [hs] at hle
    simp only at hle hge
    rw [← tl] at hs
    rw [← td] at hM
    have ek : (257 + (kx : Int)) - 257 = (kx : Int) := by omega
    have hM2 := hM
    rw [← ek] at hM2
    obtain ⟨k1, k2⟩ := sym_end t2 he hp ho hs c (by omega) (by omega) hM2
    rw [ek, Int.toNat_natCast] at k1 k2
    have hpm := matchEnd_p m7 d1.out (lens.getD kx 0 + k) (dists.getD dd.toNat 0 + j)
    obtain ⟨D, hD⟩ : ∃ D, matchEnd m7 d1.out (lens.getD kx 0 + k) (dists.getD dd.toNat 0 + j) = D := ⟨_, rfl⟩
    rw [hD] at k1 k2 hpm ⊢
    refine ⟨?_, by omega⟩
    by_cases e : D.e = 0
    · obtain ⟨u, q1, q2, q3, q4, q5, q6, q7⟩ := k2 e
      exact ⟨by omega, .inl ⟨e, u, r.trans q1, q2, by rw [q3, tl], by rw [q4, td], by rw [q5, ta], q6.symm⟩⟩
    · have B := k1 e
      refine ⟨?_, .inr ⟨e, by rw [← ta]; exact BlockTo.more r B⟩⟩
      obtain ⟨_, _, _, _, z, _⟩ := B
      exact z
  · exact absurd he h.1
end
/-- Where the box stands. -/
def placeAt (g : Nat) (W : World) : Nat := (intOf ((W.cell? ⟨g, 1, none⟩).getD (.int .i64 0))).toNat
theorem So.place {w W : World} {AL : Option Addr} {bits : List Int} {cL : Nat} {most : Int} {v0 : Value} {gz : Nat} {d : DS} {Ao : Option Addr} {co : Nat} (h : So w W AL bits cL most v0 gz d Ao co) : placeAt w.heap.size W = d.p := by
  have := h.x.cell 1
  unfold placeAt
  rw [this]
  rfl
theorem SOut.lit {AL : Option Addr} {bits : List Int} {cL : Nat} {most : Int} {v0 : Value} {d : DS} {w w' : World} {e : Ending} (h : SOut AL bits cL most v0 d w e w') :
    ∃ Ao co, e = .returned (.agg #[.slice AL bits.length cL, .int .i64 (d.p : Int), .slice Ao d.out.length co, .int .i64 most, .int .i64 d.e]) ∧ Own w' 0 5 .u8 (.slice Ao d.out.length co) d.out ∧ TurnsIn (fun b => v0.ownBlock = some b) w w' ∧ Newer w v0 (.slice Ao d.out.length co) := h
/-- What a method answers that works to a block's end. -/
def SymTo (most : Int) (s : St) (d0 : DS) (AL : Option Addr) (bits : List Int) (cL : Nat) (v0 : Value) (w : World) (e : Ending) (w' : World) : Prop := ∃ d', BlockTo most bits s d0.p s.last d' ∧ SOut AL bits cL most v0 d' w e w'
theorem apart_newer {w w' : World} {v v' : Value} {A : Option Addr} {l : List Int} {k : IntKind} (H : Holds w w.heap.size k A l) (n : Newer w v v') (h : 0 < l.length → ∀ a, A = some a → v.ownBlock ≠ some a.block) : 0 < l.length → ∀ a, A = some a → v'.ownBlock ≠ some a.block := Far.newer h n H
def KeepC (w : World) (A1 : Option Addr) (l : List Int) (A2 : Option Addr) (v : Value) : Prop := Cx9 w A1 l A2 ∧ (0 < l.length → (∀ a, A1 = some a → v.ownBlock ≠ some a.block) ∧ (∀ a, A2 = some a → v.ownBlock ≠ some a.block))
theorem KeepC.to {w W : World} {A1 A2 : Option Addr} {l : List Int} {v v' : Value} (h : KeepC w A1 l A2 v) (t : TurnsIn (fun b => v.ownBlock = some b) w W) (n : Newer w v v') : KeepC W A1 l A2 v' := by
  obtain ⟨T, f⟩ := h
  refine ⟨T.turn t (fun hl => ⟨(f hl).1, (f hl).2⟩), fun hl => ⟨?_, ?_⟩⟩
  · exact Far.newer (fun hl => (f hl).1) n T.h hl
  · exact Far.newer (l := codes l) (fun hl => (f (by rwa [codes_length] at hl)).2) n T.h2 (by rwa [codes_length])

set_option maxRecDepth 100000 in
set_option maxHeartbeats 6400000 in
theorem symbols_any (A1 A2 : Option Addr) (l : List Int) (c1 c2 : Nat) (A3 A4 : Option Addr) (ds : List Int) (c3 c4 : Nat) (AL : Option Addr) (bits : List Int) (cL : Nat) (Ao : Option Addr) (co : Nat) (most : Int) (s : St) (d : DS) (w : World)
    (h2 : s.ph = 2) (hl : s.ls = l) (hd : s.ds = ds) (ho : d.out = s.out) (hs : SOk most s d.p) (he : d.e = 0) (hp : d.p ≤ bits.length) (h8 : bits.length % 8 = 0) (hmo : 0 ≤ most ∧ most ≤ 1000000) (hl9 : l.length ≤ 1000)
    (o : Own w 0 5 .u8 (.slice Ao d.out.length co) d.out) (r : Rx w AL bits cL) (f : ∀ a, AL = some a → (Value.slice Ao d.out.length co).ownBlock ≠ some a.block)
    (K1 : KeepC w A1 l A2 (.slice Ao d.out.length co)) (K2 : KeepC w A3 ds A4 (.slice Ao d.out.length co)) :
    Calls Tryd.prog 28 #[.agg #[.slice AL bits.length cL, .int .i64 (d.p : Int), .slice Ao d.out.length co, .int .i64 most, .int .i64 d.e], .agg #[.slice A1 l.length c1, .slice A2 l.length c2], .agg #[.slice A3 ds.length c3, .slice A4 ds.length c4]] w
      (SymTo most s d AL bits cL (.slice Ao d.out.length co) w) := by
  have hB := r.b
  have hbd := r.m
  have J0 := So.start4 (most := most) (A1 := A1) (n1 := l.length) (c1 := c1) (A2 := A2) (c2 := c2) (A3 := A3) (n3 := ds.length) (c3 := c3) (A4 := A4) (c4 := c4) o r f
  have Y0 : SymAt most bits s d d := SymAt.begin h2 he hp ho
  have HK1 := Lib.hid K1
  have HK2 := Lib.hid K2
  have HBD := Lib.hid (fun (di : DS) (h : SymAt most bits s d di) (he : di.e = 0) => h.bd he hB h8 hp hs)
  have HMO := Lib.hid hmo
  have HL := Lib.hid hl
  have HD := Lib.hid hd
  have HX := Lib.hid (fun (di d1 : DS) (x : Int) (h : symD l bits di = (x, d1)) (e1 : d1.e = 0) (e : di.e = 0) => show 0 ≤ x ∧ x < (l.length : Int) by
    unfold symD at h
    rw [if_neg (fun c => c e)] at h
    split at h
    · rename_i ht
      injection h with a b
      have := told_lt K1.1.m K1.1.o (fun y hy => hB y (List.mem_of_mem_drop hy)) ht
      omega
    · injection h with a b
      subst b
      simp at e1
    · injection h with a b
      subst b
      simp at e1)
  clear K1 K2 o r f hs h2 hl hd ho hmo h8 he hp
  go_enter Tryd.func28, Tryd.ntmps28
  go_upto_region 1 with fail
  generalize (World.alloc (World.alloc (World.alloc (World.alloc w (Obj.cells #[.slice AL bits.length cL, .int .i64 (d.p : Int), .slice Ao d.out.length co, .int .i64 most, .int .i64 d.e] 43)) (Obj.cells #[.slice A1 l.length c1, .slice A2 l.length c2] 65)) (Obj.cells #[.slice A3 ds.length c3, .slice A4 ds.length c4] 65)) (Obj.cells #[.slice none 0 0, .int .i64 0, .slice none 0 0, .int .i64 0, .int .i64 0] 43)) = w0 at *
  obtain ⟨J0, B1, B2⟩ := J0
  go_loopw [7] (fun _ wr => ∃ (di : DS) (A9 : Option Addr) (c9 : Nat), SymAt most bits s d di ∧ So w wr AL bits cL most (.slice Ao d.out.length co) (w.heap.size + 1 + 1 + 1) di A9 c9 ∧ Block wr (w.heap.size + 1) 65 #[.slice A1 l.length c1, .slice A2 l.length c2] ∧ Block wr (w.heap.size + 1 + 1) 65 #[.slice A3 ds.length c3, .slice A4 ds.length c4]) (fun _ wr => bits.length - placeAt w.heap.size wr)
  case atStart => exact ⟨d, Ao, co, Y0, J0, B1, B2⟩
  case round =>
    clear Y0 J0 B1 B2
    obtain ⟨di, A9, c9, Y, J, B1, B2⟩ := hrel
    have k4 : wr.cell? ⟨w.heap.size, 4, none⟩ = some (.int .i64 di.e) := J.x.cell 4
    have hpi := Y.1
    have HPL := Lib.hid J.place
    by_cases he : di.e = 0
    · have hle := symD_le (l := l) (b := bits) hpi
      obtain ⟨⟨x, d1⟩, hsy⟩ : ∃ r, symD l bits di = r := ⟨_, rfl⟩
      rw [hsy] at hle
      simp only at hle
      have GN := Lib.hid (fun W R T => by have := next_lit AL bits cL A9 di.out.length c9 most di W A1 A2 l c1 c2 R T hpi; rw [hsy] at this; exact this)
      have HLE := Lib.hid hle
      have HSY := Lib.hid hsy
      have HE := Lib.hid he
      have HY := Lib.hid Y
      have k5 : wr.cell? ⟨w.heap.size, 4, none⟩ = some (.int .i64 0) := by rw [k4, he]
      clear hle hsy he k4 Y hpi
      go_upto_region 2 with fail
      clear k5
      go_upto_region 3 with (first
        | (have _t := J; refine wpList_load_midV (o := ⟨some 13, _, _, _, _, _⟩) (by rfl) _ _ rfl (w.heap.size) 0 rfl [.slice AL bits.length cL, .int .i64 (di.p : Int), .slice A9 di.out.length c9, .int .i64 most, .int .i64 di.e] (block_range (L := [.slice AL bits.length cL, .int .i64 (di.p : Int), .slice A9 di.out.length c9, .int .i64 most, .int .i64 di.e]) J.x) Tryd.underlying43 rfl (by kernel_rfl) ?_; clear _t)
        | (have _t := J; refine wpList_load_midV (o := ⟨some 14, _, _, _, _, _⟩) (by rfl) _ _ rfl (w.heap.size + 1) 0 rfl [.slice A1 l.length c1, .slice A2 l.length c2] (block_range (L := [.slice A1 l.length c1, .slice A2 l.length c2]) B1) Tryd.underlying65 rfl (by kernel_rfl) ?_; clear _t)
        | (have _t := J; go_at_call 40; refine (GN.out _ J.r ((HK1.out.to J.t J.n).1)).mono ?_; rintro e w1x ⟨rfl, hbx⟩; have Jx := J.below hbx; have B1x := B1.below hbx B1.lt; have B2x := B2.below hbx B2.lt; clear _t J B1 B2 hbx)
        | (have _t := Jx; refine wpList_store_blk rfl _ _ _ rfl (ds := [.slice AL bits.length cL, .int .i64 (d1.p : Int), .slice A9 di.out.length c9, .int .i64 most, .int .i64 d1.e]) (Block.new w1x 43 #[.slice none 0 0, .int .i64 0, .slice none 0 0, .int .i64 0, .int .i64 0]) rfl rfl rfl (by kernel_rfl) (by intro u hu; simp only [List.mem_cons, List.not_mem_nil, or_false] at hu; rcases hu with rfl | rfl | rfl | rfl | rfl <;> rfl) ?_; clear _t; intro w2 X9 g9; have kk := Jx.lt; have J2 := Jx.fresh g9; have B1a := (B1x.alloc (.cells #[.slice none 0 0, .int .i64 0, .slice none 0 0, .int .i64 0, .int .i64 0] 43)).grown g9 (by intro h; injection h with h; have := B1x.lt; omega); have B2a := (B2x.alloc (.cells #[.slice none 0 0, .int .i64 0, .slice none 0 0, .int .i64 0, .int .i64 0] 43)).grown g9 (by intro h; injection h with h; have := B2x.lt; omega); clear g9))
      try simp only [Act.put]
      clear Jx B1x B2x
      have X2 := X9
      clear X9
      go_upto_region 4 with (first
        | (have _t := X2; refine wpList_load_midV (o := ⟨some 18, _, _, _, _, _⟩) (by rfl) _ _ rfl (w1x.heap.size) 0 rfl [.slice AL bits.length cL, .int .i64 (d1.p : Int), .slice A9 di.out.length c9, .int .i64 most, .int .i64 d1.e] (block_range (L := [.slice AL bits.length cL, .int .i64 (d1.p : Int), .slice A9 di.out.length c9, .int .i64 most, .int .i64 d1.e]) X2) Tryd.underlying43 rfl (by kernel_rfl) ?_; clear _t)
        | (have _t := J2; refine wpList_store_blk rfl _ _ _ rfl (ds := [.slice AL bits.length cL, .int .i64 (d1.p : Int), .slice A9 di.out.length c9, .int .i64 most, .int .i64 d1.e]) J2.x rfl rfl rfl (by kernel_rfl) (by intro u hu; simp only [List.mem_cons, List.not_mem_nil, or_false] at hu; rcases hu with rfl | rfl | rfl | rfl | rfl <;> rfl) ?_; clear _t; intro w3 X9 g9; have J3 := J2.set (d' := { d1 with out := di.out }) g9 rfl X9; have B1b := B1a.grown g9 (by intro h; injection h with h; omega); have B2b := B2a.grown g9 (by intro h; injection h with h; omega); clear X9 g9))
      try simp only [Act.put]
      clear J2 X2 B1a B2a kk
      have E1 : Hid ({ d1 with out := di.out } = d1) := Lib.hid (by rw [← HLE.out.2])
      have k4 : w3.cell? ⟨w.heap.size, 4, none⟩ = some (.int .i64 d1.e) := J3.x.cell 4
      by_cases he1 : d1.e = 0
      · have hx := HX.out di d1 x HSY.out he1 HE.out
        have k5 : w3.cell? ⟨w.heap.size, 4, none⟩ = some (.int .i64 0) := by rw [k4, he1]
        have HE1 := Lib.hid he1
        clear he1 k4
        by_cases h256 : x = 256
        · have z256 : (x == 256) = true := by rw [beq_iff_eq]; exact h256
          have HF := Lib.hid (HY.out.exit HE.out (by rw [HL.out]; exact HSY.out) (.inr h256))
          clear h256 GN HSY
          go_wp2_with (first
            | (have _t := J3; refine wpList_load_midV (o := ⟨some 26, _, _, _, _, _⟩) (by rfl) _ _ rfl (w.heap.size) 0 rfl [.slice AL bits.length cL, .int .i64 (d1.p : Int), .slice A9 di.out.length c9, .int .i64 most, .int .i64 d1.e] (block_range (L := [.slice AL bits.length cL, .int .i64 (d1.p : Int), .slice A9 di.out.length c9, .int .i64 most, .int .i64 d1.e]) J3.x) Tryd.underlying43 rfl (by kernel_rfl) ?_; clear _t)
            | (have _t := J3; refine wpList_store_blk rfl _ _ _ rfl (ds := [.slice AL bits.length cL, .int .i64 (d1.p : Int), .slice A9 di.out.length c9, .int .i64 most, .int .i64 d1.e]) J3.z rfl rfl rfl (by kernel_rfl) (by intro u hu; simp only [List.mem_cons, List.not_mem_nil, or_false] at hu; rcases hu with rfl | rfl | rfl | rfl | rfl <;> rfl) ?_; clear _t; intro w99 X9 g9; skip))
          try simp only [Act.put]
          exact bodyPost_ret (v := .agg #[.slice AL bits.length cL, .int .i64 (d1.p : Int), .slice A9 di.out.length c9, .int .i64 most, .int .i64 d1.e]) (results_cell_row rfl _ _ (w.heap.size + 1 + 1 + 1) 43 _ (0, 0) _ rfl X9 Tryd.underlying43 rfl (by kernel_rfl)) rfl (⟨d1, HF.out, by rw [← E1.out]; exact J3.done g9⟩)
        · have z256 : (x == 256) = false := by rw [beq_eq_false_iff_ne]; exact h256
          by_cases hlt : x < 256
          · have zlt : decide (x < 256) = true := decide_eq_true hlt
            obtain ⟨d2, hf⟩ : ∃ d2, failD (decide (most ≤ (di.out.length : Int))) 12 d1 = d2 := ⟨_, rfl⟩
            have GF := Lib.hid (fun W => by have := refuse_lit AL bits cL A9 di.out.length c9 most d1 W (decide (most ≤ (di.out.length : Int))) 12; rw [hf] at this; exact this)
            have q2 := failD_le (decide (most ≤ (di.out.length : Int))) 12 d1
            rw [hf] at q2
            have E2 : Hid ({ d2 with out := di.out } = d2) := Lib.hid (by rw [show di.out = d2.out by rw [q2.2, HLE.out.2]])
            obtain ⟨y1, y2, y3⟩ := HY.out.lit HE.out (by rw [HL.out]; exact HSY.out) HE1.out hlt hf
            have HY1 := Lib.hid y1
            have HY2 := Lib.hid y2
            have HPP := Lib.hid y3
            have hdl := HBD.out di HY.out HE.out
            have hm9 := HMO.out.2
            have hx0 := hx.1
            clear y1 y2 y3 q2 hf HLE HSY HY GN HX HBD HMO E1 h256 hx
            go_upto_region 7 with fail
            have k2 : w3.cell? ⟨w.heap.size, 2, none⟩ = some (.slice A9 di.out.length c9) := J3.x.cell 2
            have k3 : w3.cell? ⟨w.heap.size, 3, none⟩ = some (.int .i64 most) := J3.x.cell 3
            clear k5
            go_upto_region 8 with (first
              | (have _t := J3; refine wpList_load_midV (o := ⟨some 29, _, _, _, _, _⟩) (by rfl) _ _ rfl (w.heap.size) 0 rfl [.slice AL bits.length cL, .int .i64 (d1.p : Int), .slice A9 di.out.length c9, .int .i64 most, .int .i64 d1.e] (block_range (L := [.slice AL bits.length cL, .int .i64 (d1.p : Int), .slice A9 di.out.length c9, .int .i64 most, .int .i64 d1.e]) J3.x) Tryd.underlying43 rfl (by kernel_rfl) ?_; clear _t)
              | (have _t := J3; go_at_call 17; refine (GF.out _).mono ?_; rintro e w4x ⟨rfl, hbx⟩; have J3x := J3.below hbx; have B1bx := B1b.below hbx B1b.lt; have B2bx := B2b.below hbx B2b.lt; clear _t J3 B1b B2b hbx)
              | (have _t := J3x; refine wpList_store_blk rfl _ _ _ rfl (ds := [.slice AL bits.length cL, .int .i64 (d2.p : Int), .slice A9 di.out.length c9, .int .i64 most, .int .i64 d2.e]) J3x.x rfl rfl rfl (by kernel_rfl) (by intro u hu; simp only [List.mem_cons, List.not_mem_nil, or_false] at hu; rcases hu with rfl | rfl | rfl | rfl | rfl <;> rfl) ?_; clear _t; intro w4 X9 g9; have J4 := J3x.set (d' := { d2 with out := di.out }) g9 rfl X9; have B1bc := B1bx.grown g9 (by intro h; injection h with h; omega); have B2bc := B2bx.grown g9 (by intro h; injection h with h; omega); clear X9 g9))
            try simp only [Act.put]
            clear k2 k3 J3x B1bx B2bx
            have k4 : w4.cell? ⟨w.heap.size, 4, none⟩ = some (.int .i64 d2.e) := J4.x.cell 4
            by_cases he2 : d2.e = 0
            · have k5 : w4.cell? ⟨w.heap.size, 4, none⟩ = some (.int .i64 0) := by rw [k4, he2]
              have hbd2 : di.out.length ≤ 1000000 := by omega
              have HYY := Lib.hid (HY2.out he2)
              clear he2 k4
              go_upto_region 9 with fail
              clear k5
              have k2 : w4.cell? ⟨w.heap.size, 2, none⟩ = some (.slice A9 di.out.length c9) := J4.x.cell 2
              have J4a := J4.alloc (.cells #[.int .u8 x] 5)
              have B1a := B1bc.alloc (.cells #[.int .u8 x] 5)
              have B2a := B2bc.alloc (.cells #[.int .u8 x] 5)
              clear J4 B1bc B2bc
              go_wp2_with (at_builtin; refine wpList_append_ints (ys := [x]) _ rfl _ _ _ rfl elem8 J4a.o rfl rfl (Holds.new w4 .u8 x _) (by simp only [List.length_cons, List.length_nil]; omega) (Nat.zero_le _) ?_; intro v5 w5 own5 hg5 hb5 hv5; have own6 : Own w5 0 5 .u8 v5 (di.out ++ [x]) := own5; obtain ⟨ys, hys⟩ : ∃ ys, di.out ++ [x] = ys := ⟨_, rfl⟩; rw [hys] at own6; obtain ⟨A5, c5, rfl, _, _, _⟩ := own6.opened; have nw := Newer.ofApp hv5; have x5 := (J4a.grow hg5 nw).2.1; have k7 := x5.cell 2; have f7 := x5.frozen 2; have J5 := J4a.told hg5 own6 nw; have B1d := B1a.grown hg5 (J4a.o.ne_block B1a (by decide)); have B2d := B2a.grown hg5 (J4a.o.ne_block B2a (by decide)); have g7 := grown_cell w5 w.heap.size 2 (.slice A5 ys.length c5); have B1e := B1d.grown g7 (by intro h; injection h with h; omega); have B2e := B2d.grown g7 (by intro h; injection h with h; omega); have HYS := Lib.hid hys; clear own5 own6 hg5 hb5 hv5 hys nw x5 J4a k2 B1d B2d g7 B1a B2a)
              have HYZ := HYY.out
              rw [HYS.out] at HYZ
              have HYW := Lib.hid HYZ
              clear HYZ
              try simp only [Act.put]
              go_roundw
              case rel => exact ⟨{ d2 with out := ys }, A5, c5, HYW.out, J5, B1e, B2e⟩
              case measure => rw [J5.place, HPL.out]; have h1 := HPP.out; have h2 := HYW.out.1; (try simp only at h2 ⊢); omega
            · have z : (d2.e == 0) = false := by rw [beq_eq_false_iff_ne]; exact he2
              have HYY := Lib.hid (HY1.out he2)
              clear he2
              go_wp2_with fail
              have HYW : Hid (SymAt most bits s d { d2 with out := di.out }) := Lib.hid (by rw [E2.out]; exact HYY.out)
              try simp only [Act.put]
              go_roundw
              case rel => exact ⟨{ d2 with out := di.out }, A9, c9, HYW.out, J4, B1bc, B2bc⟩
              case measure => rw [J4.place, HPL.out]; have h1 := HPP.out; have h2 := HYW.out.1; (try simp only at h2 ⊢); omega
          · have zlt : decide (x < 256) = false := decide_eq_false hlt
            obtain ⟨kx, hkx⟩ : ∃ kx : Nat, x = 257 + (kx : Int) := ⟨(x - 257).toNat, by omega⟩
            subst hkx
            have hkx : kx ≤ 1000 := by omega
            obtain ⟨m1, e1⟩ : ∃ m, failD (decide (28 < (kx : Int))) 11 d1 = m := ⟨_, rfl⟩
            obtain ⟨⟨k, m2⟩, e2⟩ : ∃ m, numD (lmore (kx : Int)).toNat bits m1 = m := ⟨_, rfl⟩
            obtain ⟨⟨dd, m3⟩, e3⟩ : ∃ m, symD ds bits m2 = m := ⟨_, rfl⟩
            obtain ⟨m4, e4⟩ : ∃ m, failD (decide (29 < dd)) 11 m3 = m := ⟨_, rfl⟩
            obtain ⟨⟨j, m5⟩, e5⟩ : ∃ m, numD (dmore dd).toNat bits m4 = m := ⟨_, rfl⟩
            obtain ⟨m6, e6⟩ : ∃ m, failD (decide ((d1.out.length : Int) < dists.getD dd.toNat 0 + j)) 11 m5 = m := ⟨_, rfl⟩
            obtain ⟨m7, e7⟩ : ∃ m, failD (decide (most - d1.out.length < lens.getD (kx : Int).toNat 0 + k)) 12 m6 = m := ⟨_, rfl⟩
            have hM : MatchD ds bits most d1 m1 m2 m3 m4 m5 m6 m7 (kx : Int) k dd j := ⟨e1, e2, e3, e4, e5, e6, e7⟩
            obtain ⟨y1, y3⟩ := HY.out.mat HE.out (by rw [HL.out]; exact HSY.out) HE1.out (by rw [HD.out]; exact hM)
            have hdl : (d1.out.length : Int) ≤ most := by rw [HLE.out.2]; exact HBD.out di HY.out HE.out
            have GM := Lib.hid (fun W (Q : So w W AL bits cL most (.slice Ao d.out.length co) (w.heap.size + 1 + 1 + 1) d1 A9 c9) => rmatch_any A3 A4 ds c3 c4 AL bits cL A9 c9 most d1 m1 m2 m3 m4 m5 m6 m7 kx k dd j W hM HE1.out HLE.out.1 hkx (by have := HMO.out; omega) HMO.out Q.o Q.r Q.f (HK2.out.to Q.t Q.n).1 (HK2.out.to Q.t Q.n).2)
            obtain ⟨D, hD⟩ : ∃ D, matchEnd m7 d1.out (lens.getD kx 0 + k) (dists.getD dd.toNat 0 + j) = D := ⟨_, rfl⟩
            rw [hD] at y1 y3 GM
            have HYW := Lib.hid y1
            have HPP := Lib.hid y3
            rw [E1.out] at J3
            have ed : di.out.length = d1.out.length := by rw [HLE.out.2]
            try rw [ed]
            clear ed
            clear y1 y3 e1 e2 e3 e4 e5 e6 e7 hM hD HLE HSY HY GN HX HBD HMO E1 h256 hx hlt hdl hkx HE1
            go_upto_region 10 with fail
            clear k5
            go_wp2_with (first
              | (have _t := J3; refine wpList_load_midV (o := ⟨some 47, _, _, _, _, _⟩) (by rfl) _ _ rfl (w.heap.size) 0 rfl [.slice AL bits.length cL, .int .i64 (d1.p : Int), .slice A9 d1.out.length c9, .int .i64 most, .int .i64 d1.e] (block_range (L := [.slice AL bits.length cL, .int .i64 (d1.p : Int), .slice A9 d1.out.length c9, .int .i64 most, .int .i64 d1.e]) J3.x) Tryd.underlying43 rfl (by kernel_rfl) ?_; clear _t)
              | (have _t := J3; refine wpList_load_midV (o := ⟨some 49, _, _, _, _, _⟩) (by rfl) _ _ rfl (w.heap.size + 1 + 1) 0 rfl [.slice A3 ds.length c3, .slice A4 ds.length c4] (block_range (L := [.slice A3 ds.length c3, .slice A4 ds.length c4]) B2b) Tryd.underlying65 rfl (by kernel_rfl) ?_; clear _t)
              | (have _t := J3; go_at_call 41; refine (GM.out _ J3).mono ?_; rintro e w4 hQ; obtain ⟨A5, c5, rfl, o5, t5, n5⟩ := hQ.lit; have x5 := J3.x.out t5 (J3.o.ne_block J3.x (by decide)); have B1c := B1b.out t5 (J3.o.ne_block B1b (by decide)); have B2c := B2b.out t5 (J3.o.ne_block B2b (by decide)); clear _t hQ)
              | (have _t := x5; refine wpList_store_blk rfl _ _ _ rfl (ds := [.slice AL bits.length cL, .int .i64 (D.p : Int), .slice A5 D.out.length c5, .int .i64 most, .int .i64 D.e]) x5 rfl rfl rfl (by kernel_rfl) (by intro u hu; simp only [List.mem_cons, List.not_mem_nil, or_false] at hu; rcases hu with rfl | rfl | rfl | rfl | rfl <;> rfl) ?_; clear _t; intro w5 X9 g9; have J5 := J3.after o5 t5 n5 g9 X9; have B1d := B1c.grown g9 (by intro h; injection h with h; omega); have B2d := B2c.grown g9 (by intro h; injection h with h; omega); clear X9 g9 x5 o5 t5 n5 J3))
            try simp only [Act.put]
            go_roundw
            case rel => exact ⟨D, A5, c5, HYW.out, J5, B1d, B2d⟩
            case measure => rw [J5.place, HPL.out]; have h1 := HPP.out; have h2 := HYW.out.1; (try simp only at h2 ⊢); omega
      · have z : (d1.e == 0) = false := by rw [beq_eq_false_iff_ne]; exact he1
        have HF := Lib.hid (HY.out.exit HE.out (by rw [HL.out]; exact HSY.out) (.inl he1))
        clear he1 GN HSY
        go_wp2_with (first
          | (have _t := J3; refine wpList_load_midV (o := ⟨some 26, _, _, _, _, _⟩) (by rfl) _ _ rfl (w.heap.size) 0 rfl [.slice AL bits.length cL, .int .i64 (d1.p : Int), .slice A9 di.out.length c9, .int .i64 most, .int .i64 d1.e] (block_range (L := [.slice AL bits.length cL, .int .i64 (d1.p : Int), .slice A9 di.out.length c9, .int .i64 most, .int .i64 d1.e]) J3.x) Tryd.underlying43 rfl (by kernel_rfl) ?_; clear _t)
          | (have _t := J3; refine wpList_store_blk rfl _ _ _ rfl (ds := [.slice AL bits.length cL, .int .i64 (d1.p : Int), .slice A9 di.out.length c9, .int .i64 most, .int .i64 d1.e]) J3.z rfl rfl rfl (by kernel_rfl) (by intro u hu; simp only [List.mem_cons, List.not_mem_nil, or_false] at hu; rcases hu with rfl | rfl | rfl | rfl | rfl <;> rfl) ?_; clear _t; intro w99 X9 g9; skip))
        try simp only [Act.put]
        exact bodyPost_ret (v := .agg #[.slice AL bits.length cL, .int .i64 (d1.p : Int), .slice A9 di.out.length c9, .int .i64 most, .int .i64 d1.e]) (results_cell_row rfl _ _ (w.heap.size + 1 + 1 + 1) 43 _ (0, 0) _ rfl X9 Tryd.underlying43 rfl (by kernel_rfl)) rfl (⟨d1, HF.out, by rw [← E1.out]; exact J3.done g9⟩)
    · have z : (di.e == 0) = false := by rw [beq_eq_false_iff_ne]; exact he
      have HF := Lib.hid (Y.over he)
      clear he Y
      go_wp2_with (first
        | (have _t := J; refine wpList_load_midV (o := ⟨some 51, _, _, _, _, _⟩) (by rfl) _ _ rfl (w.heap.size) 0 rfl [.slice AL bits.length cL, .int .i64 (di.p : Int), .slice A9 di.out.length c9, .int .i64 most, .int .i64 di.e] (block_range (L := [.slice AL bits.length cL, .int .i64 (di.p : Int), .slice A9 di.out.length c9, .int .i64 most, .int .i64 di.e]) J.x) Tryd.underlying43 rfl (by kernel_rfl) ?_; clear _t)
        | (have _t := J; refine wpList_store_blk rfl _ _ _ rfl (ds := [.slice AL bits.length cL, .int .i64 (di.p : Int), .slice A9 di.out.length c9, .int .i64 most, .int .i64 di.e]) J.z rfl rfl rfl (by kernel_rfl) (by intro u hu; simp only [List.mem_cons, List.not_mem_nil, or_false] at hu; rcases hu with rfl | rfl | rfl | rfl | rfl <;> rfl) ?_; clear _t; intro w99 X9 g9; skip))
      try simp only [Act.put]
      exact bodyPost_ret (v := .agg #[.slice AL bits.length cL, .int .i64 (di.p : Int), .slice A9 di.out.length c9, .int .i64 most, .int .i64 di.e]) (results_cell_row rfl _ _ (w.heap.size + 1 + 1 + 1) 43 _ (0, 0) _ rfl X9 Tryd.underlying43 rfl (by kernel_rfl)) rfl (⟨di, HF.out, J.done g9⟩)
end Go.Proofs.YthflefdchgpbdaaDoor.Inf

namespace Go.Proofs.YthflefdchgpbdaaDoor.Inf
open Go.ChangeShapes Go.WideShapes Go.ChangeAt Go.RowKit Go.Proofs.YthflefdchgpbdaaDoor.Kit Go.Proofs.YthflefdchgpbdaaDoor.Bits Go.Proofs.YthflefdchgpbdaaDoor.Huf Go.Proofs.YthflefdchgpbdaaDoor.Df

/-- A callee told more, its answer is the method's. -/
theorem So.leave {w W W1 W2 : World} {AL : Option Addr} {bits : List Int} {cL : Nat} {most : Int} {v0 : Value} {gz : Nat} {d d' : DS} {Ao A' : Option Addr} {co c' : Nat} (h : So w W AL bits cL most v0 gz d Ao co)
    (o : Own W1 0 5 .u8 (.slice A' d'.out.length c') d'.out) (t : TurnsIn (fun b => (Value.slice Ao d.out.length co).ownBlock = some b) W W1) (n : Newer W (.slice Ao d.out.length co) (.slice A' d'.out.length c')) (g : W1.grownBy W2 (some gz)) :
    Own W2 0 5 .u8 (.slice A' d'.out.length c') d'.out ∧ TurnsIn (fun b => v0.ownBlock = some b) w W2 ∧ Newer w v0 (.slice A' d'.out.length c') := by
  have z1 := h.z.out t (h.o.ne_block h.z (by decide))
  have hb := o.ne_block z1 (by decide)
  have k := h.lt
  have kg := h.g
  have t1 : TurnsIn (fun b => v0.ownBlock = some b) w W1 := h.t.then_ t (fun b hb e => by
    rcases h.n with q | q
    · rw [← q]; exact e
    · have := q b e; omega)
  exact ⟨o.kept g (.inr hb), t1.then_ (.ofGrown g (S := fun b => b = gz) fun b e => by injection e with e; exact e.symm) (fun b hb e => by omega), h.n.trans h.t.size n⟩
theorem numD_gt {k : Nat} {b : List Int} {d d' : DS} {x : Int} (h : numD k b d = (x, d')) (he : d.e = 0) (e : d'.e = 0) : d'.p = d.p + k := by
  unfold numD at h
  rw [if_neg (fun c => c he)] at h
  split at h
  · injection h with _ h
    subst h
    simp at e
  · injection h with _ h
    subst h
    rfl
theorem bytesD_ge (b : List Int) : ∀ (k : Nat) (d : DS), d.p ≤ (bytesD b k d).p
  | 0, d => Nat.le_refl _
  | k + 1, d => by
    have h := numD_ge 8 b d
    rw [bytesD]
    split
    · exact Nat.le_refl _
    · split
      · exact Nat.le_trans h (bytesD_ge b k { (numD 8 b d).2 with out := d.out ++ [(numD 8 b d).1] })
      · exact h
theorem head_ge {b : List Int} {most : Int} {d d1 d2 d3 d4 d5 : DS} {n m : Int} (H : HeadD b most d d1 d2 d3 d4 d5 n m) : d.p ≤ d5.p := by
  obtain ⟨h1, h2, h3, h4, h5⟩ := H
  have q2 := numD_ge 16 b d1
  rw [h2] at q2
  have q3 := numD_ge 16 b d2
  rw [h3] at q3
  have q4 := (failD_le (decide (n + m ≠ 65535)) 11 d3).1
  rw [h4] at q4
  have q5 := (failD_le (decide (most - d.out.length < n)) 12 d4).1
  rw [h5] at q5
  have q1 : d1.p = (d.p + 7) / 8 * 8 := by rw [h1]
  simp only at q2 q3
  omega
theorem two_turns {W W1 W2 : World} {g : Nat} {o : Obj} (h1 : (W.alloc o).grownBy W1 (some W.heap.size)) (h2 : W1.grownBy W2 (some g)) : TurnsIn (fun b => b = g ∨ b = W.heap.size) W W2 := by
  have a : TurnsIn (fun b => b = g ∨ b = W.heap.size) W (W.alloc o) := .ofNew ((Below.refl _ _).alloc (Nat.le_refl _) _)
  have b : TurnsIn (fun b => b = g ∨ b = W.heap.size) (W.alloc o) W1 := .ofGrown h1 fun b e => by injection e with e; exact .inr e.symm
  have c : TurnsIn (fun b => b = g ∨ b = W.heap.size) W1 W2 := .ofGrown h2 fun b e => by injection e with e; exact .inl e.symm
  exact (a.trans b).trans c
theorem holds_lt {w : World} {A : Option Addr} {l : List Int} {k : IntKind} (h : Holds w w.heap.size k A l) (hl : 0 < l.length) (a : Addr) (ha : A = some a) : a.block < w.heap.size := by
  obtain ⟨b, off, e, hb, _⟩ := h hl
  rw [ha] at e
  injection e with e
  subst e
  exact hb
/-- What block answers. -/
def BlkTo (most : Int) (s : St) (d0 : DS) (AL : Option Addr) (bits : List Int) (cL : Nat) (v0 : Value) (w : World) (e : Ending) (w' : World) : Prop :=
  ∃ (bl : Bool) (d' : DS) (A' : Option Addr) (c' : Nat), e = .returned (.tuple #[.bool bl, .agg #[.slice AL bits.length cL, .int .i64 (d'.p : Int), .slice A' d'.out.length c', .int .i64 most, .int .i64 d'.e]]) ∧ BlockTo most bits s d0.p bl d' ∧
    Own w' 0 5 .u8 (.slice A' d'.out.length c') d'.out ∧ TurnsIn (fun b => v0.ownBlock = some b) w w' ∧ Newer w v0 (.slice A' d'.out.length c') ∧ (d'.e = 0 → d0.p < d'.p)
/-- The method leaves with its box. -/
theorem So.quit {w W W2 : World} {AL : Option Addr} {bits : List Int} {cL : Nat} {most : Int} {v0 : Value} {gz : Nat} {s : St} {d0 d : DS} {Ao : Option Addr} {co : Nat} (h : So w W AL bits cL most v0 gz d Ao co) (B : BlockTo most bits s d0.p true d) (he : d.e ≠ 0) (g : W.grownBy W2 (some gz)) :
    BlkTo most s d0 AL bits cL v0 w (.returned (.tuple #[.bool true, .agg #[.slice AL bits.length cL, .int .i64 (d.p : Int), .slice Ao d.out.length co, .int .i64 most, .int .i64 d.e]])) W2 := by
  obtain ⟨k1, k2, k3⟩ := h.leave h.o (TurnsIn.refl _ _) (Newer.refl _ _) g
  exact ⟨true, d, Ao, co, rfl, B, k1, k2, k3, fun c => absurd c he⟩
theorem block_ge {most : Int} {b : List Int} {s : St} {p : Nat} {last : Bool} {d' : DS} (hB : Bit b) (h8 : b.length % 8 = 0) (hp : p ≤ b.length) (hs : SOk most s p) (B : BlockTo most b s p last d') (e : d'.e = 0) : p ≤ d'.p := by
  obtain ⟨t, q, r, _, _, h | h⟩ := B
  · rw [h.2.1]
    exact (r.ok hB h8 hp hs).2.2.1
  · exact absurd e h.1
/-- A block's lengths, at its symbols' beginning. -/
structure MidD (most : Int) (b : List Int) (s : St) (d d5 : DS) (a : Int) (l1 l2 : List Int) : Prop where
  ho : d5.out = d.out
  hp : d5.p ≤ b.length
  no : d5.e ≠ 0 → BlockTo most b s d.p true d5
  ok : d5.e = 0 → Reach most b s d.p { s with ph := 2, last := decide (a = 1), left := 0, ls := l1, ds := l2 } d5.p
  gt : d5.e = 0 → d.p < d5.p
structure MidW (w : World) (v : Value) (A1 : Option Addr) (l1 : List Int) (A2 : Option Addr) (l2 : List Int) : Prop where
  h1 : Holds w w.heap.size .u8 A1 l1
  h2 : Holds w w.heap.size .u8 A2 l2
  o1 : Octets l1
  o2 : Octets l2
  m1 : mayB l1 = true
  m2 : mayB l2 = true
  n1 : l1.length ≤ 288
  n2 : l2.length ≤ 32
  f1 : ∀ a, A1 = some a → v.ownBlock ≠ some a.block
  f2 : ∀ a, A2 = some a → v.ownBlock ≠ some a.block
section
variable {most : Int} {b : List Int} {s : St} {d d1 d2 d3 d5 : DS} {a k : Int} {l1 l2 : List Int}
theorem mid_fixed (hgt : d.p < d3.p) (h0 : s.ph = 0) (he : d.e = 0) (hp : d.p ≤ b.length) (h1 : numD 1 b d = (a, d1)) (h2 : numD 2 b d1 = (1, d2)) (h3 : failD (decide ((1 : Int) = 3)) 11 d2 = d3) (he3 : d3.e = 0) : MidD most b s d d3 a fixL fixD := by
  obtain ⟨o3, p3, _, st⟩ := (open_head (most := most) h0 he hp h1 h2 h3 (fun _ => by omega)).2 he3
  rw [if_neg (by decide), if_pos rfl] at st
  exact ⟨o3, p3, fun c => absurd he3 c, fun _ => .step .refl (by omega) st, fun _ => hgt⟩
theorem mid_dyn (h8 : b.length % 8 = 0) (hgt : d.p < d3.p) (h0 : s.ph = 0) (he : d.e = 0) (hp : d.p ≤ b.length) (ho : d.out = s.out) (h1 : numD 1 b d = (a, d1)) (h2 : numD 2 b d1 = (2, d2)) (h3 : failD (decide ((2 : Int) = 3)) 11 d2 = d3) (he3 : d3.e = 0) (G : Goes b d3 (dynG b d3.p) (l1, l2) d5) : MidD most b s d d5 a l1 l2 := by
  obtain ⟨o3, p3, _, st⟩ := (open_head (most := most) h0 he hp h1 h2 h3 (fun _ => by omega)).2 he3
  rw [if_neg (by decide), if_neg (by decide)] at st
  obtain ⟨q1, q2⟩ := G.le
  refine ⟨by rw [q2, o3], q1, fun c => ?_, fun c => ?_, fun c => ?_⟩
  · refine BlockTo.wrong (ends_of_err (by omega) ?_) c (by rw [q2, o3, ho]) q1
    rw [st]
    exact (G.no c).1.bind _
  · rw [bindG_ok _ (G.ok c).1] at st
    exact .step .refl (by omega) st
  · have := fine_dyn.le b d3.p _ _ h8 p3 (G.ok c).1
    omega
end

set_option maxRecDepth 100000 in
set_option maxHeartbeats 12800000 in
theorem block_any (AL : Option Addr) (bits : List Int) (cL : Nat) (Ao : Option Addr) (co : Nat) (most : Int) (s : St) (d : DS) (w : World)
    (h0 : s.ph = 0) (ho : d.out = s.out) (hs : SOk most s d.p) (he : d.e = 0) (hp : d.p ≤ bits.length) (h8 : bits.length % 8 = 0) (hmo : 0 ≤ most ∧ most ≤ 1000000)
    (o : Own w 0 5 .u8 (.slice Ao d.out.length co) d.out) (r : Rx w AL bits cL) (f : ∀ a, AL = some a → (Value.slice Ao d.out.length co).ownBlock ≠ some a.block) :
    Calls Tryd.prog 16 #[.agg #[.slice AL bits.length cL, .int .i64 (d.p : Int), .slice Ao d.out.length co, .int .i64 most, .int .i64 d.e]] w (BlkTo most s d AL bits cL (.slice Ao d.out.length co) w) := by
  have hB := r.b
  have hbd := r.m
  have hol : d.out.length ≤ 1000000 := by have := hs.len; rw [ho]; omega
  have J0 := So.start2 (most := most) o r f
  obtain ⟨⟨a, d1⟩, h1⟩ : ∃ r, numD 1 bits d = r := ⟨_, rfl⟩
  have q1 := numD_le (k := 1) (b := bits) (d := d) hp
  rw [h1] at q1
  simp only at q1
  obtain ⟨⟨k, d2⟩, h2⟩ : ∃ r, numD 2 bits d1 = r := ⟨_, rfl⟩
  have q2 := numD_le (k := 2) (b := bits) (d := d1) q1.1
  have b2 := numD_bd (k := 2) hB (d := d1) q1.1
  rw [h2] at q2 b2
  simp only at q2 b2
  rw [show (2 : Int) ^ 2 = 4 by decide] at b2
  obtain ⟨d3, h3⟩ : ∃ d3, failD (decide (k = 3)) 11 d2 = d3 := ⟨_, rfl⟩
  have q3 := failD_le (decide (k = 3)) 11 d2
  rw [h3] at q3
  have G1 := Lib.hid (fun W R => by have := get_lit AL bits cL Ao d.out.length co most d W 1 R (by omega) hp; rw [h1] at this; exact this)
  have G2 := Lib.hid (fun W R => by have := get_lit AL bits cL Ao d.out.length co most d1 W 2 R (by omega) q1.1; rw [h2] at this; exact this)
  have G3 := Lib.hid (fun W (is : Bool) (hi : is = decide (k = 3)) => by
    have := refuse_lit AL bits cL Ao d.out.length co most d2 W is 11
    have e2 : failD is 11 d2 = d3 := by { rw [hi]; exact h3 }
    rw [e2] at this
    exact this)
  have E3 : Hid ({ d3 with out := d.out } = d3 ∧ d3.p ≤ bits.length ∧ d3.out = d.out) := Lib.hid ⟨by rw [show d.out = d3.out by rw [q3.2, q2.2, q1.2]], by rw [q3.1]; exact q2.1, by rw [q3.2, q2.2, q1.2]⟩
  have HGT : Hid (d3.e = 0 → d.p < d3.p) := Lib.hid (fun e => by
    have e2 := (ok_of h3 (by decide) e).2
    rw [e2] at e
    have e1 : d1.e = 0 := by
      by_cases c : d1.e = 0
      · exact c
      · rw [(num_err h2 c).2] at e; exact absurd e c
    have g1 := numD_gt h1 he e1
    have g2 := numD_gt h2 e1 e
    rw [e2]
    omega)
  have OH := Lib.hid (open_head (most := most) h0 he hp h1 h2 h3 (fun _ => by omega))
  have H8 := Lib.hid h8
  have HM := Lib.hid hmo
  have HOL := Lib.hid hol
  have HO := Lib.hid ho
  have HE := Lib.hid he
  have HP := Lib.hid hp
  have H0 := Lib.hid h0
  have HH1 := Lib.hid h1
  have HH2 := Lib.hid h2
  have HH3 := Lib.hid h3
  have HS := Lib.hid hs
  have kb := b2
  clear h0 ho hs he hp h8 hmo o r f h1 h2 h3 q1 q2 q3 b2 hol
  go_enter Tryd.func16, Tryd.ntmps16
  go_upto_region 1 with fail
  generalize (World.alloc (World.alloc w (Obj.cells #[.slice AL bits.length cL, .int .i64 (d.p : Int), .slice Ao d.out.length co, .int .i64 most, .int .i64 d.e] 43)) (Obj.cells #[.slice none 0 0, .int .i64 0, .slice none 0 0, .int .i64 0, .int .i64 0] 43)) = w0 at *
  go_upto_region 2 with (first
    | (have _t := J0; refine wpList_load_midV (o := ⟨some 12, _, _, _, _, _⟩) (by rfl) _ _ rfl (w.heap.size) 0 rfl [.slice AL bits.length cL, .int .i64 (d.p : Int), .slice Ao d.out.length co, .int .i64 most, .int .i64 d.e] (block_range (L := [.slice AL bits.length cL, .int .i64 (d.p : Int), .slice Ao d.out.length co, .int .i64 most, .int .i64 d.e]) J0.x) Tryd.underlying43 rfl (by kernel_rfl) ?_; clear _t)
    | (have _t := J0; go_at_call 24; refine (G1.out _ J0.r).mono ?_; rintro e w1x ⟨rfl, hbx⟩; have Jx := J0.below hbx; clear _t J0 hbx)
    | (have _t := Jx; refine wpList_store_blk rfl _ _ _ rfl (ds := [.slice AL bits.length cL, .int .i64 (d1.p : Int), .slice Ao d.out.length co, .int .i64 most, .int .i64 d1.e]) Jx.x rfl rfl rfl (by kernel_rfl) (by intro u hu; simp only [List.mem_cons, List.not_mem_nil, or_false] at hu; rcases hu with rfl | rfl | rfl | rfl | rfl <;> rfl) ?_; clear _t; intro w1 X9 g9; have J1 := Jx.set (d' := { d1 with out := d.out }) g9 rfl X9; clear X9 g9 Jx))
  try simp only [Act.put]
  go_upto_region 3 with (first
    | (have _t := J1; refine wpList_load_midV (o := ⟨some 17, _, _, _, _, _⟩) (by rfl) _ _ rfl (w.heap.size) 0 rfl [.slice AL bits.length cL, .int .i64 (d1.p : Int), .slice Ao d.out.length co, .int .i64 most, .int .i64 d1.e] (block_range (L := [.slice AL bits.length cL, .int .i64 (d1.p : Int), .slice Ao d.out.length co, .int .i64 most, .int .i64 d1.e]) J1.x) Tryd.underlying43 rfl (by kernel_rfl) ?_; clear _t)
    | (have _t := J1; go_at_call 24; refine (G2.out _ J1.r).mono ?_; rintro e w2x ⟨rfl, hbx⟩; have Jx := J1.below hbx; clear _t J1 hbx)
    | (have _t := Jx; refine wpList_store_blk rfl _ _ _ rfl (ds := [.slice AL bits.length cL, .int .i64 (d2.p : Int), .slice Ao d.out.length co, .int .i64 most, .int .i64 d2.e]) Jx.x rfl rfl rfl (by kernel_rfl) (by intro u hu; simp only [List.mem_cons, List.not_mem_nil, or_false] at hu; rcases hu with rfl | rfl | rfl | rfl | rfl <;> rfl) ?_; clear _t; intro w2 X9 g9; have J2 := Jx.set (d' := { d2 with out := d.out }) g9 rfl X9; clear X9 g9 Jx))
  try simp only [Act.put]
  go_upto_region 4 with (first
    | (have _t := J2; refine wpList_load_midV (o := ⟨some 21, _, _, _, _, _⟩) (by rfl) _ _ rfl (w.heap.size) 0 rfl [.slice AL bits.length cL, .int .i64 (d2.p : Int), .slice Ao d.out.length co, .int .i64 most, .int .i64 d2.e] (block_range (L := [.slice AL bits.length cL, .int .i64 (d2.p : Int), .slice Ao d.out.length co, .int .i64 most, .int .i64 d2.e]) J2.x) Tryd.underlying43 rfl (by kernel_rfl) ?_; clear _t)
    | (have _t := J2; go_at_call 17; refine (G3.out _ _ (by first | rfl | (by_cases c : k = 3 <;> simp [c]))).mono ?_; rintro e w3x ⟨rfl, hbx⟩; have Jx := J2.below hbx; clear _t J2 hbx)
    | (have _t := Jx; refine wpList_store_blk rfl _ _ _ rfl (ds := [.slice AL bits.length cL, .int .i64 (d3.p : Int), .slice Ao d.out.length co, .int .i64 most, .int .i64 d3.e]) Jx.x rfl rfl rfl (by kernel_rfl) (by intro u hu; simp only [List.mem_cons, List.not_mem_nil, or_false] at hu; rcases hu with rfl | rfl | rfl | rfl | rfl <;> rfl) ?_; clear _t; intro w3 X9 g9; have J3 := Jx.set (d' := { d3 with out := d.out }) g9 rfl X9; clear X9 g9 Jx))
  try simp only [Act.put]
  clear G1 G2 G3
  have k4 : w3.cell? ⟨w.heap.size, 4, none⟩ = some (.int .i64 d3.e) := J3.x.cell 4
  by_cases he3 : d3.e = 0
  · obtain ⟨o3, p3, k3, st⟩ := OH.out.2 he3
    have k5 := k4
    rw [he3] at k5
    have HE3 := Lib.hid he3
    clear k4 he3 o3 p3 st OH
    by_cases k0 : k = 0
    · have z0 : (k == 0) = true := by rw [beq_iff_eq]; exact k0
      obtain ⟨e1, n1⟩ : ∃ e1 : DS, e1 = { d3 with p := (d3.p + 7) / 8 * 8 } := ⟨_, rfl⟩
      obtain ⟨⟨n, e2⟩, n2⟩ : ∃ r, numD 16 bits e1 = r := ⟨_, rfl⟩
      obtain ⟨⟨m, e3⟩, n3⟩ : ∃ r, numD 16 bits e2 = r := ⟨_, rfl⟩
      obtain ⟨e4, n4⟩ : ∃ e4, failD (decide (n + m ≠ 65535)) 11 e3 = e4 := ⟨_, rfl⟩
      obtain ⟨e5, n5⟩ : ∃ e5, failD (decide (most - d3.out.length < n)) 12 e4 = e5 := ⟨_, rfl⟩
      have HD : HeadD bits most d3 e1 e2 e3 e4 e5 n m := ⟨n1, n2, n3, n4, n5⟩
      subst k0
      have BT := stored_block (most := most) H0.out HE.out HP.out H8.out HO.out HH1.out HH2.out HH3.out HE3.out HD
      obtain ⟨D, hD⟩ : ∃ D, bytesD bits n.toNat e5 = D := ⟨_, rfl⟩
      have PD : Hid (d.p < D.p) := Lib.hid (by have g1 := HGT.out HE3.out; have g2 := head_ge HD; have g3 := bytesD_ge bits n.toNat e5; rw [hD] at g3; omega)
      rw [hD] at BT
      have GS := Lib.hid (fun W (Q : So w W AL bits cL most (.slice Ao d.out.length co) (w.heap.size + 1) { d3 with out := d.out } Ao co) =>
        (show Calls Tryd.prog 25 #[.agg #[.slice AL bits.length cL, .int .i64 (d3.p : Int), .slice Ao d.out.length co, .int .i64 most, .int .i64 d3.e]] W (SOut AL bits cL most (.slice Ao d.out.length co) D W) from by
          have := stored_any AL bits cL Ao co most { d3 with out := d.out } e1 e2 e3 e4 e5 n m W (by rw [E3.out.1]; exact HD) HE3.out E3.out.2.1 H8.out HOL.out HM.out Q.o Q.r Q.f
          rw [hD] at this
          exact this))
      have HBT := Lib.hid BT
      clear n1 n2 n3 n4 n5 HD BT hD
      go_upto_region 7 with fail
      clear k5
      go_wp2_with (first
        | (have _t := J3; refine wpList_load_midV (o := ⟨some 33, _, _, _, _, _⟩) (by rfl) _ _ rfl (w.heap.size) 0 rfl [.slice AL bits.length cL, .int .i64 (d3.p : Int), .slice Ao d.out.length co, .int .i64 most, .int .i64 d3.e] (block_range (L := [.slice AL bits.length cL, .int .i64 (d3.p : Int), .slice Ao d.out.length co, .int .i64 most, .int .i64 d3.e]) J3.x) Tryd.underlying43 rfl (by kernel_rfl) ?_; clear _t)
        | (have _t := J3; go_at_call 25; refine (GS.out _ J3).mono ?_; rintro e w4 hQ; obtain ⟨A5, c5, rfl, o5, t5, n5⟩ := hQ.lit; have z5 := J3.z.out t5 (J3.o.ne_block J3.z (by decide)); clear _t hQ)
        | (have _t := z5; refine wpList_store_blk rfl _ _ _ rfl (ds := [.slice AL bits.length cL, .int .i64 (D.p : Int), .slice A5 D.out.length c5, .int .i64 most, .int .i64 D.e]) z5 rfl rfl rfl (by kernel_rfl) (by intro u hu; simp only [List.mem_cons, List.not_mem_nil, or_false] at hu; rcases hu with rfl | rfl | rfl | rfl | rfl <;> rfl) ?_; clear _t; intro w5 X9 g9; have LV := J3.leave o5 t5 n5 g9))
      try simp only [Act.put]
      exact bodyPost_ret (v := .tuple #[.bool (a == 1), .agg #[.slice AL bits.length cL, .int .i64 (D.p : Int), .slice A5 D.out.length c5, .int .i64 most, .int .i64 D.e]]) (results_tmp_row rfl _ _ (w.heap.size + 1) 43 _ (0, 0) _ _ rfl rfl X9 Tryd.underlying43 rfl (by kernel_rfl)) rfl ⟨(a == 1), D, A5, c5, rfl, HBT.out, LV.1, LV.2.1, LV.2.2, fun _ => PD.out⟩
    · have z0 : (k == 0) = false := by rw [beq_eq_false_iff_ne]; exact k0
      have GX := Lib.hid (fun W => rfixed_own W)
      go_upto_region 9 with (have _t := J3; go_at_call 26; refine (GX.out _).mono ?_; rintro e wf ⟨A1, c1, A2, c2, rfl, F1, F2, hbx, L1, L2⟩; have J4 := J3.below hbx; have ov := J3.o.lt; clear _t J3 hbx)
      clear k5 GX
      have MW : MidW wf (.slice Ao d.out.length co) A1 fixL A2 fixD := ⟨F1, F2, fix_ok.2.1, fix_ok.2.2.2.2.1, fix_ok.1, fix_ok.2.2.2.1, by rw [fix_ok.2.2.1]; exact Nat.le_refl _, by rw [fix_ok.2.2.2.2.2]; exact Nat.le_refl _, fun a ha e => by have := (ov _ e).2; have := L1 a ha; omega, fun a ha e => by have := (ov _ e).2; have := L2 a ha; omega⟩
      clear F1 F2 L1 L2 ov
      try rw [fix_ok.2.2.1, fix_ok.2.2.2.2.2]
      go_upto_if 40 with fail
      go_cut [6, 7] from 6 to 49 (fun v6 v7 wx => ∃ (A1 : Option Addr) (l1 : List Int) (c1 : Nat) (A2 : Option Addr) (l2 : List Int) (c2 : Nat) (d5 : DS), v6 = .slice A1 l1.length c1 ∧ v7 = .slice A2 l2.length c2 ∧ So w wx AL bits cL most (.slice Ao d.out.length co) (w.heap.size + 1) { d5 with out := d.out } Ao co ∧ MidD most bits s d d5 a l1 l2 ∧ (d5.e = 0 → MidW wx (.slice Ao d.out.length co) A1 l1 A2 l2))
      case first =>
        by_cases k2 : k = 2
        · have z2 : (k == 2) = true := by rw [beq_iff_eq]; exact k2
          subst k2
          have GD := Lib.hid (fun W (R : Rx W AL bits cL) => rdynamic_any AL bits cL Ao d.out.length co most d3 W HE3.out E3.out.2.1 R)
          go_upto_region 10 with fail
          go_upto_region 11 with (first
            | (have _t := J4; refine wpList_load_midV (o := ⟨some 42, _, _, _, _, _⟩) (by rfl) _ _ rfl (w.heap.size) 0 rfl [.slice AL bits.length cL, .int .i64 (d3.p : Int), .slice Ao d.out.length co, .int .i64 most, .int .i64 d3.e] (block_range (L := [.slice AL bits.length cL, .int .i64 (d3.p : Int), .slice Ao d.out.length co, .int .i64 most, .int .i64 d3.e]) J4.x) Tryd.underlying43 rfl (by kernel_rfl) ?_; clear _t)
            | (have _t := J4; go_at_call 27; refine (GD.out _ J4.r).mono ?_; rintro e w5 ⟨A3, l1, c3, A4, l2, c4, d5, rfl, hbx, GO, M5⟩; have Jx := J4.below hbx; have ov := J4.o.lt; have kf := J4.lt.1; clear _t J4 hbx MW)
            | (have _t := Jx; refine wpList_store_blk rfl _ _ _ rfl (ds := [.slice AL bits.length cL, .int .i64 (d5.p : Int), .slice Ao d.out.length co, .int .i64 most, .int .i64 d5.e]) (Block.new w5 43 #[.slice none 0 0, .int .i64 0, .slice none 0 0, .int .i64 0, .int .i64 0]) rfl rfl rfl (by kernel_rfl) (by intro u hu; simp only [List.mem_cons, List.not_mem_nil, or_false] at hu; rcases hu with rfl | rfl | rfl | rfl | rfl <;> rfl) ?_; clear _t; intro w6 X9 g9; have kk := Jx.lt; have J5 := Jx.fresh g9; have X5 := X9; have g5 := g9; clear X9 g9 Jx))
          try simp only [Act.put]
          go_wp2_with (first
            | (have _t := X5; refine wpList_load_midV (o := ⟨some 47, _, _, _, _, _⟩) (by rfl) _ _ rfl (w5.heap.size) 0 rfl [.slice AL bits.length cL, .int .i64 (d5.p : Int), .slice Ao d.out.length co, .int .i64 most, .int .i64 d5.e] (block_range (L := [.slice AL bits.length cL, .int .i64 (d5.p : Int), .slice Ao d.out.length co, .int .i64 most, .int .i64 d5.e]) X5) Tryd.underlying43 rfl (by kernel_rfl) ?_; clear _t)
            | (have _t := X5; refine wpList_store_blk rfl _ _ _ rfl (ds := [.slice AL bits.length cL, .int .i64 (d5.p : Int), .slice Ao d.out.length co, .int .i64 most, .int .i64 d5.e]) J5.x rfl rfl rfl (by kernel_rfl) (by intro u hu; simp only [List.mem_cons, List.not_mem_nil, or_false] at hu; rcases hu with rfl | rfl | rfl | rfl | rfl <;> rfl) ?_; clear _t; intro w7 X9 g9; have J6 := J5.set (d' := { d5 with out := d.out }) g9 rfl X9; have g6 := g9; clear X9 g9 J5))
          try simp only [Act.put]
          go_meet
          have t6 : TurnsIn (fun b => b = w.heap.size ∨ b = w5.heap.size) w5 w7 := two_turns g5 g6
          refine ⟨A3, l1, c3, A4, l2, c4, d5, rfl, rfl, J6, mid_dyn H8.out (HGT.out HE3.out) H0.out HE.out HP.out HO.out HH1.out HH2.out HH3.out HE3.out GO, fun e => ?_⟩
          obtain ⟨M1, M2, M3, M4, M6, M7, M8, M9, M10, M11⟩ := M5 e
          have hwf := J6.lt.1
          exact ⟨Holds.turn M1 t6 (fun hl a ha c => by have := M10 a ha; have := holds_lt M1 hl a ha; rcases c with c | c <;> omega), Holds.turn M2 t6 (fun hl a ha c => by have := M11 a ha; have := holds_lt M2 hl a ha; rcases c with c | c <;> omega), M3, M4, M6, M7, by omega, M9, fun a ha c => by have := (ov _ c).2; have := M10 a ha; omega, fun a ha c => by have := (ov _ c).2; have := M11 a ha; omega⟩
        · have z2 : (k == 2) = false := by rw [beq_eq_false_iff_ne]; exact k2
          obtain rfl : k = 1 := by omega
          go_wp2_with fail
          go_meet
          exact ⟨A1, fixL, c1, A2, fixD, c2, d3, by rw [fix_ok.2.2.1], by rw [fix_ok.2.2.2.2.2], J4, mid_fixed (HGT.out HE3.out) H0.out HE.out HP.out HH1.out HH2.out HH3.out HE3.out, fun _ => MW⟩
      case rest =>
        obtain ⟨A1, l1, c1, A2, l2, c2, d5, rfl, rfl, J5, MD, MW⟩ := hcut
        clear J4
        have k4 : wc.cell? ⟨w.heap.size, 4, none⟩ = some (.int .i64 d5.e) := J5.x.cell 4
        have E5 : Hid ({ d5 with out := d.out } = d5) := Lib.hid (by rw [← MD.ho])
        by_cases he5 : d5.e = 0
        · have MV := MW he5
          have k5 := k4
          rw [he5] at k5
          have HE5 := Lib.hid he5
          have RC := MD.ok he5
          have hs5 := (RC.ok hB H8.out HP.out HS.out).1
          have HS5 := Lib.hid hs5
          have HRC := Lib.hid RC
          have HMD := Lib.hid MD
          have M1 := MV.n1
          have GMA := Lib.hid (fun W (H : Holds W W.heap.size .u8 A1 l1) => made_own A1 l1 c1 W MV.o1 MV.m1 H)
          have GMB := Lib.hid (fun W (H : Holds W W.heap.size .u8 A2 l2) => made_own A2 l2 c2 W MV.o2 MV.m2 H)
          have GSY := Lib.hid (fun (A3 : Option Addr) (c3 : Nat) (A4 : Option Addr) (c4 : Nat) W (Q : So w W AL bits cL most (.slice Ao d.out.length co) (w.heap.size + 1) { d5 with out := d.out } Ao co) (K1 : KeepC W A1 l1 A3 (.slice Ao d.out.length co)) (K2 : KeepC W A2 l2 A4 (.slice Ao d.out.length co)) =>
            (show Calls Tryd.prog 28 #[.agg #[.slice AL bits.length cL, .int .i64 (d5.p : Int), .slice Ao d.out.length co, .int .i64 most, .int .i64 d5.e], .agg #[.slice A1 l1.length c1, .slice A3 l1.length c3], .agg #[.slice A2 l2.length c2, .slice A4 l2.length c4]] W (SymTo most { s with ph := 2, last := decide (a = 1), left := 0, ls := l1, ds := l2 } { d5 with out := d.out } AL bits cL (.slice Ao d.out.length co) W) from
              symbols_any A1 A3 l1 c1 c3 A2 A4 l2 c2 c4 AL bits cL Ao co most { s with ph := 2, last := decide (a = 1), left := 0, ls := l1, ds := l2 } { d5 with out := d.out } W rfl rfl rfl HO.out hs5 HE5.out HMD.out.hp H8.out HM.out (by omega) Q.o Q.r Q.f K1 K2))
          have HMV := Lib.hid MV
          clear he5 k4 MW MV MD RC hs5 M1
          go_upto_region 16 with fail
          have JD := J5.drew
          have MD2 : MidW wc.drew (.slice Ao d.out.length co) A1 l1 A2 l2 := ⟨HMV.out.h1, HMV.out.h2, HMV.out.o1, HMV.out.o2, HMV.out.m1, HMV.out.m2, HMV.out.n1, HMV.out.n2, HMV.out.f1, HMV.out.f2⟩
          clear J5 k5
          refine wp_region_held_drew (S := (fun W => Block W w.heap.size 43 #[.slice AL bits.length cL, .int .i64 (d5.p : Int), .slice Ao d.out.length co, .int .i64 most, .int .i64 d5.e])) (by kernel_rfl) JD.x (fun hS => ?_)
          refine wpAnyH_take (i := 0) (oi := ⟨some 54, _, _, _, _, _⟩) (v := .int .i64 a) rfl (by kernel_rfl) (by kernel_rfl) (by kernel_rfl) (fun _ _ _ h => h) (Or.inl ⟨by rfl, fun W hW => by go_simp⟩) hS ?_
          try simp only [Act.put, List.setIfInBounds_toArray, List.set_cons_zero, List.set_cons_succ]
          refine wpAnyH_take (i := 1) (oi := ⟨some 55, _, _, _, _, _⟩) (v := .bool (a == 1)) rfl (by kernel_rfl) (by kernel_rfl) (by kernel_rfl) (fun _ _ _ h => h) (Or.inl ⟨by rfl, fun W hW => by go_simp⟩) hS ?_
          try simp only [Act.put, List.setIfInBounds_toArray, List.set_cons_zero, List.set_cons_succ]
          refine wpAnyH_take (i := 2) (oi := ⟨some 56, _, _, _, _, _⟩) (v := .agg #[.slice AL bits.length cL, .int .i64 (d5.p : Int), .slice Ao d.out.length co, .int .i64 most, .int .i64 d5.e]) rfl (by kernel_rfl) (by kernel_rfl) (by kernel_rfl) (fun _ _ _ h => h) (yieldsIf_load_mid (by rfl) _ _ rfl (w.heap.size) (0) rfl [.slice AL bits.length cL, .int .i64 (d5.p : Int), .slice Ao d.out.length co, .int .i64 most, .int .i64 d5.e] _ (fun W hW => block_range (L := [.slice AL bits.length cL, .int .i64 (d5.p : Int), .slice Ao d.out.length co, .int .i64 most, .int .i64 d5.e]) hW) Tryd.underlying43 rfl (by kernel_rfl)) hS ?_
          try simp only [Act.put, List.setIfInBounds_toArray, List.set_cons_zero, List.set_cons_succ]
          refine wpAnyH_take (i := 3) (oi := ⟨some 57, _, _, _, _, _⟩) (v := .slice A1 l1.length c1) rfl (by kernel_rfl) (by kernel_rfl) (by kernel_rfl) (fun _ _ _ h => h) (Or.inl ⟨by rfl, fun W hW => by go_simp⟩) hS ?_
          try simp only [Act.put, List.setIfInBounds_toArray, List.set_cons_zero, List.set_cons_succ]
          refine wpAnyH_take (i := 5) (oi := ⟨some 59, _, _, _, _, _⟩) (v := .slice A2 l2.length c2) rfl (by kernel_rfl) (by kernel_rfl) (by kernel_rfl) (fun _ _ _ h => h) (Or.inl ⟨by rfl, fun W hW => by go_simp⟩) hS ?_
          try simp only [Act.put, List.setIfInBounds_toArray, List.set_cons_zero, List.set_cons_succ]
          refine wpAnyH_ready (rs := [4]) (by kernel_rfl) (by simp) ?_
          refine AllReadyH.cons rfl (fun K hK => ?_) AllReadyH.nil
          go_simp
          go_at_call 29
          refine (GMA.out _ MD2.h1).mono ?_
          rintro e wa ⟨A3, c3, rfl, T1, hbx, L3⟩
          have Ja := JD.below hbx
          have h2a := (MD2.h2.below hbx).more hbx.size
          have ov := JD.o.lt
          have f3 : ∀ x, A3 = some x → (Value.slice Ao d.out.length co).ownBlock ≠ some x.block := fun x hx c => by have := (ov _ c).2; have := L3 x hx; omega
          clear JD hbx ov L3
          try simp only [cC]
          refine hK.out _ _ Ja.x (fun hS => ?_)
          clear hK K
          try simp only [Act.put, List.setIfInBounds_toArray, List.set_cons_zero, List.set_cons_succ]
          refine wpAnyH_ready (rs := [6]) (by kernel_rfl) (by simp) ?_
          refine AllReadyH.cons rfl (fun K hK => ?_) AllReadyH.nil
          go_simp
          go_at_call 29
          refine (GMB.out _ h2a).mono ?_
          rintro e wb ⟨A4, c4, rfl, T2, hbx, L4⟩
          have Jb := Ja.below hbx
          have T1b := T1.below hbx
          have ov := Ja.o.lt
          have f4 : ∀ x, A4 = some x → (Value.slice Ao d.out.length co).ownBlock ≠ some x.block := fun x hx c => by have := (ov _ c).2; have := L4 x hx; omega
          clear Ja hbx ov L4 T1
          try simp only [cC]
          refine hK.out _ _ Jb.x (fun hS => ?_)
          clear hK K
          try simp only [Act.put, List.setIfInBounds_toArray, List.set_cons_zero, List.set_cons_succ]
          refine wpAnyH_ready (rs := [7]) (by kernel_rfl) (by simp) ?_
          refine AllReadyH.cons rfl (fun K hK => ?_) AllReadyH.nil
          go_simp
          go_at_call 28
          refine (GSY.out A3 c3 A4 c4 _ Jb ⟨T1b, fun _ => ⟨MD2.f1, f3⟩⟩ ⟨T2, fun _ => ⟨MD2.f2, f4⟩⟩).mono ?_
          rintro e wy ⟨D, BT, hQ⟩
          obtain ⟨A5, c5, rfl, o5, t5, n5⟩ := hQ.lit
          have z5 := Jb.z.out t5 (Jb.o.ne_block Jb.z (by decide))
          have x5 := Jb.x.out t5 (Jb.o.ne_block Jb.x (by decide))
          clear hQ
          refine hK.out _ _ x5 (fun hS => ?_)
          clear hK K
          try simp only [Act.put, List.setIfInBounds_toArray, List.set_cons_zero, List.set_cons_succ]
          refine wpAnyH_take (i := 8) (oi := ⟨some 2, _, _, _, _, _⟩) (v := .bool (a == 1)) rfl (by kernel_rfl) (by kernel_rfl) (by kernel_rfl) (fun _ _ _ h => h) (Or.inl ⟨by rfl, fun W hW => by go_simp⟩) hS ?_
          try simp only [Act.put, List.setIfInBounds_toArray, List.set_cons_zero, List.set_cons_succ]
          refine wpAnyH_ready (rs := [9]) (by kernel_rfl) (by simp) ?_
          refine AllReadyH.cons rfl (fun K hK => ?_) AllReadyH.nil
          refine step_store_blk rfl _ _ _ rfl (ds := [.slice AL bits.length cL, .int .i64 (D.p : Int), .slice A5 D.out.length c5, .int .i64 most, .int .i64 D.e]) z5 rfl rfl rfl (by kernel_rfl) (by intro u hu; simp only [List.mem_cons, List.not_mem_nil, or_false] at hu; rcases hu with rfl | rfl | rfl | rfl | rfl <;> rfl) ?_
          intro w9 X9 g9
          have LV := Jb.leave o5 t5 n5 g9
          refine hK.out _ _ (hS.grown g9 (by intro h; injection h with h; omega)) (fun hS => ?_)
          clear hK K
          try simp only [Act.put, List.setIfInBounds_toArray, List.set_cons_zero, List.set_cons_succ]
          refine wpAnyH_done (by kernel_rfl) ?_ _
          go_wp2_with fail
          exact bodyPost_ret (v := .tuple #[.bool (a == 1), .agg #[.slice AL bits.length cL, .int .i64 (D.p : Int), .slice A5 D.out.length c5, .int .i64 most, .int .i64 D.e]]) (results_tmp_row rfl _ _ (w.heap.size + 1) 43 _ (0, 0) _ _ rfl rfl X9 Tryd.underlying43 rfl (by kernel_rfl)) rfl ⟨(a == 1), D, A5, c5, rfl, BlockTo.more HRC.out BT, LV.1, LV.2.1, LV.2.2, fun e => by have g1 := HMD.out.gt HE5.out; have g2 := block_ge hB H8.out HMD.out.hp HS5.out BT e; omega⟩
        · have z : (d5.e == 0) = false := by rw [beq_eq_false_iff_ne]; exact he5
          have BT := Lib.hid (MD.no he5)
          have HEX := Lib.hid he5
          clear he5 MW
          go_upto_region 15 with fail
          have JZ := J5.drew
          refine wp_region_held_drew (S := (fun W => Block W w.heap.size 43 #[.slice AL bits.length cL, .int .i64 (d5.p : Int), .slice Ao d.out.length co, .int .i64 most, .int .i64 d5.e])) (by kernel_rfl) JZ.x (fun hS => ?_)
          refine wpAnyH_take (i := 0) (oi := ⟨some 53, _, _, _, _, _⟩) (v := .agg #[.slice AL bits.length cL, .int .i64 (d5.p : Int), .slice Ao d.out.length co, .int .i64 most, .int .i64 d5.e]) rfl (by kernel_rfl) (by kernel_rfl) (by kernel_rfl) (fun _ _ _ h => h) (yieldsIf_load_mid (by rfl) _ _ rfl (w.heap.size) (0) rfl [.slice AL bits.length cL, .int .i64 (d5.p : Int), .slice Ao d.out.length co, .int .i64 most, .int .i64 d5.e] _ (fun W hW => block_range (L := [.slice AL bits.length cL, .int .i64 (d5.p : Int), .slice Ao d.out.length co, .int .i64 most, .int .i64 d5.e]) hW) Tryd.underlying43 rfl (by kernel_rfl)) hS ?_
          try simp only [Act.put, List.setIfInBounds_toArray, List.set_cons_zero, List.set_cons_succ]
          refine wpAnyH_take (i := 1) (oi := ⟨some 2, _, _, _, _, _⟩) (v := .bool true) rfl (by kernel_rfl) (by kernel_rfl) (by kernel_rfl) (fun _ _ _ h => h) (Or.inl ⟨by rfl, fun W hW => by go_simp⟩) hS ?_
          try simp only [Act.put, List.setIfInBounds_toArray, List.set_cons_zero, List.set_cons_succ]
          refine wpAnyH_ready (rs := [2]) (by kernel_rfl) (by simp) ?_
          refine AllReadyH.cons rfl (fun K hK => ?_) AllReadyH.nil
          refine step_store_blk rfl _ _ _ rfl (cs := #[.slice none 0 0, .int .i64 0, .slice none 0 0, .int .i64 0, .int .i64 0]) (ds := [.slice AL bits.length cL, .int .i64 (d5.p : Int), .slice Ao d.out.length co, .int .i64 most, .int .i64 d5.e]) (by exact JZ.z) rfl rfl rfl (by kernel_rfl) (by intro u hu; simp only [List.mem_cons, List.not_mem_nil, or_false] at hu; rcases hu with rfl | rfl | rfl | rfl | rfl <;> rfl) ?_
          intro w9 X9 g9
          refine hK.out _ _ (hS.grown g9 (by intro h; injection h with h; omega)) (fun hS => ?_)
          clear hK K
          try simp only [Act.put, List.setIfInBounds_toArray, List.set_cons_zero, List.set_cons_succ]
          refine wpAnyH_done (by kernel_rfl) ?_ _
          go_wp2_with fail
          exact bodyPost_ret (v := .tuple #[.bool true, .agg #[.slice AL bits.length cL, .int .i64 (d5.p : Int), .slice Ao d.out.length co, .int .i64 most, .int .i64 d5.e]]) (results_tmp_row rfl _ _ (w.heap.size + 1) 43 _ (0, 0) _ _ rfl rfl X9 Tryd.underlying43 rfl (by kernel_rfl)) rfl (JZ.quit (by rw [E5.out]; exact BT.out) HEX.out g9)
  · have z : (d3.e == 0) = false := by rw [beq_eq_false_iff_ne]; exact he3
    obtain ⟨en, o3, p3⟩ := OH.out.1 he3
    have BT := Lib.hid (BlockTo.wrong (last := true) en he3 (by rw [o3]; exact HO.out) p3)
    have HEX := Lib.hid he3
    clear he3 en o3 p3
    go_upto_region 5 with fail
    have JZ := J3.drew
    refine wp_region_held_drew (S := (fun W => Block W w.heap.size 43 #[.slice AL bits.length cL, .int .i64 (d3.p : Int), .slice Ao d.out.length co, .int .i64 most, .int .i64 d3.e])) (by kernel_rfl) JZ.x (fun hS => ?_)
    refine wpAnyH_take (i := 0) (oi := ⟨some 28, _, _, _, _, _⟩) (v := .agg #[.slice AL bits.length cL, .int .i64 (d3.p : Int), .slice Ao d.out.length co, .int .i64 most, .int .i64 d3.e]) rfl (by kernel_rfl) (by kernel_rfl) (by kernel_rfl) (fun _ _ _ h => h) (yieldsIf_load_mid (by rfl) _ _ rfl (w.heap.size) (0) rfl [.slice AL bits.length cL, .int .i64 (d3.p : Int), .slice Ao d.out.length co, .int .i64 most, .int .i64 d3.e] _ (fun W hW => block_range (L := [.slice AL bits.length cL, .int .i64 (d3.p : Int), .slice Ao d.out.length co, .int .i64 most, .int .i64 d3.e]) hW) Tryd.underlying43 rfl (by kernel_rfl)) hS ?_
    try simp only [Act.put, List.setIfInBounds_toArray, List.set_cons_zero, List.set_cons_succ]
    refine wpAnyH_take (i := 1) (oi := ⟨some 2, _, _, _, _, _⟩) (v := .bool true) rfl (by kernel_rfl) (by kernel_rfl) (by kernel_rfl) (fun _ _ _ h => h) (Or.inl ⟨by rfl, fun W hW => by go_simp⟩) hS ?_
    try simp only [Act.put, List.setIfInBounds_toArray, List.set_cons_zero, List.set_cons_succ]
    refine wpAnyH_ready (rs := [2]) (by kernel_rfl) (by simp) ?_
    refine AllReadyH.cons rfl (fun K hK => ?_) AllReadyH.nil
    refine step_store_blk rfl _ _ _ rfl (cs := #[.slice none 0 0, .int .i64 0, .slice none 0 0, .int .i64 0, .int .i64 0]) (ds := [.slice AL bits.length cL, .int .i64 (d3.p : Int), .slice Ao d.out.length co, .int .i64 most, .int .i64 d3.e]) (by exact JZ.z) rfl rfl rfl (by kernel_rfl) (by intro u hu; simp only [List.mem_cons, List.not_mem_nil, or_false] at hu; rcases hu with rfl | rfl | rfl | rfl | rfl <;> rfl) ?_
    intro w9 X9 g9
    refine hK.out _ _ (hS.grown g9 (by intro h; injection h with h; omega)) (fun hS => ?_)
    clear hK K
    try simp only [Act.put, List.setIfInBounds_toArray, List.set_cons_zero, List.set_cons_succ]
    refine wpAnyH_done (by kernel_rfl) ?_ _
    go_wp2_with fail
    exact bodyPost_ret (v := .tuple #[.bool true, .agg #[.slice AL bits.length cL, .int .i64 (d3.p : Int), .slice Ao d.out.length co, .int .i64 most, .int .i64 d3.e]]) (results_tmp_row rfl _ _ (w.heap.size + 1) 43 _ (0, 0) _ _ rfl rfl X9 Tryd.underlying43 rfl (by kernel_rfl)) rfl (JZ.quit (by rw [E3.out.1]; exact BT.out) HEX.out g9)
end Go.Proofs.YthflefdchgpbdaaDoor.Inf

namespace Go.Proofs.YthflefdchgpbdaaDoor.Inf
open Go.ChangeShapes Go.WideShapes Go.ChangeAt Go.RowKit Go.Proofs.YthflefdchgpbdaaDoor.Kit Go.Proofs.YthflefdchgpbdaaDoor.Bits Go.Proofs.YthflefdchgpbdaaDoor.Huf Go.Proofs.YthflefdchgpbdaaDoor.Df

theorem get_none (k : Nat) (hk : 0 < k ∧ k ≤ 32) (AL : Option Addr) (cL : Nat) (Ao : Option Addr) (no co : Nat) (most : Int) (d : DS) (w : World) (hp : d.p = 0) :
    Calls Tryd.prog 24 #[.agg #[.slice AL 0 cL, .int .i64 (d.p : Int), .slice Ao no co, .int .i64 most, .int .i64 d.e], .int .i64 k] w fun x w' =>
      x = .returned (.tuple #[.int .i64 0, .agg #[.slice AL 0 cL, .int .i64 (d.p : Int), .slice Ao no co, .int .i64 most, .int .i64 (if d.e = 0 then 2 else d.e)]]) ∧ Below w.heap.size w w' := by
  by_cases he : d.e = 0
  · rw [if_pos he, he]
    exact get_miss k AL 0 cL d.p Ao no co most w (by omega) (by omega) (by omega)
  · rw [if_neg he]
    exact get_idle k AL 0 cL d.p Ao no co most d.e w he
theorem fail_none (is : Bool) (E : Int) (AL : Option Addr) (cL : Nat) (Ao : Option Addr) (no co : Nat) (most : Int) (d : DS) (w : World) (he : d.e = 2) :
    Calls Tryd.prog 17 #[.agg #[.slice AL 0 cL, .int .i64 (d.p : Int), .slice Ao no co, .int .i64 most, .int .i64 2], .bool is, .int .i64 E] w fun x w' =>
      x = .returned (.agg #[.slice AL 0 cL, .int .i64 (d.p : Int), .slice Ao no co, .int .i64 most, .int .i64 2]) ∧ Below w.heap.size w w' := by
  have := refuse_any is E AL 0 cL Ao no co most d w
  rw [fail_err (d := d) rfl (by omega)] at this
  unfold sD at this
  rw [he] at this
  exact this
set_option maxRecDepth 100000 in
set_option maxHeartbeats 6400000 in
theorem block_none (AL : Option Addr) (cL : Nat) (Ao : Option Addr) (co : Nat) (most : Int) (s : St) (d : DS) (w : World) (h0 : s.ph = 0) (ho : d.out = s.out) (he : d.e = 0) (hp : d.p = 0) (o : Own w 0 5 .u8 (.slice Ao d.out.length co) d.out) :
    Calls Tryd.prog 16 #[.agg #[.slice AL 0 cL, .int .i64 (d.p : Int), .slice Ao d.out.length co, .int .i64 most, .int .i64 d.e]] w (BlkTo most s d AL [] cL (.slice Ao d.out.length co) w) := by
  obtain ⟨d2, hd2⟩ : ∃ d2 : DS, d2 = { d with e := 2 } := ⟨_, rfl⟩
  have c2 : d2.p = d.p ∧ d2.out = d.out ∧ d2.e = 2 := by subst hd2; exact ⟨rfl, rfl, rfl⟩
  have e1 : numD 1 [] d = (0, d2) := by unfold numD; rw [if_neg (fun c => c he), if_pos (by simp), hd2]
  have e2 : numD 2 [] d2 = (0, d2) := by unfold numD; rw [if_pos (by omega)]
  have e3 : failD (decide ((0 : Int) = 3)) 11 d2 = d2 := fail_err rfl (by omega)
  have BT := BlockTo.wrong (last := true) ((open_head (most := most) h0 he (by rw [hp]; exact Nat.zero_le _) e1 e2 e3 (fun _ => by omega)).1 (by omega)).1 (by omega) (by rw [c2.2.1]; exact ho) (by rw [c2.1, hp]; exact Nat.zero_le _)
  have FIN : ∀ W, Below w.heap.size w W → BlkTo most s d AL [] cL (.slice Ao d.out.length co) w (.returned (.tuple #[.bool true, .agg #[.slice AL 0 cL, .int .i64 (d.p : Int), .slice Ao d.out.length co, .int .i64 most, .int .i64 2]])) W := fun W hb =>
    ⟨true, d2, Ao, co, by rw [c2.1, c2.2.1, c2.2.2]; rfl, BT, by rw [c2.2.1]; exact o.below hb, .ofNew hb, by rw [c2.2.1]; exact Newer.refl _ _, fun c => by omega⟩
  have HF := Lib.hid FIN
  have G1 := Lib.hid (fun W => by have := get_none 1 (by omega) AL cL Ao d.out.length co most d W hp; rw [if_pos he] at this; exact this)
  have G2 := Lib.hid (fun W => by have := get_none 2 (by omega) AL cL Ao d.out.length co most d2 W (by omega); rw [if_neg (by omega), c2.1, c2.2.2] at this; exact this)
  have G3 := Lib.hid (fun W is => by have := fail_none is 11 AL cL Ao d.out.length co most d2 W (by omega); rw [c2.1] at this; exact this)
  have bb := below_2 w (.cells #[.slice AL 0 cL, .int .i64 (d.p : Int), .slice Ao d.out.length co, .int .i64 most, .int .i64 d.e] 43) (.cells #[.slice none 0 0, .int .i64 0, .slice none 0 0, .int .i64 0, .int .i64 0] 43)
  have bx := (Block.new w 43 #[.slice AL 0 cL, .int .i64 (d.p : Int), .slice Ao d.out.length co, .int .i64 most, .int .i64 d.e]).alloc (.cells #[.slice none 0 0, .int .i64 0, .slice none 0 0, .int .i64 0, .int .i64 0] 43)
  have bz := block_2 w (.cells #[.slice AL 0 cL, .int .i64 (d.p : Int), .slice Ao d.out.length co, .int .i64 most, .int .i64 d.e] 43) 43 #[.slice none 0 0, .int .i64 0, .slice none 0 0, .int .i64 0, .int .i64 0]
  clear FIN BT e1 e2 e3 c2 hd2 o ho he hp h0
  go_enter Tryd.func16, Tryd.ntmps16
  go_upto_region 1 with fail
  generalize (World.alloc (World.alloc w (Obj.cells #[.slice AL 0 cL, .int .i64 (d.p : Int), .slice Ao d.out.length co, .int .i64 most, .int .i64 d.e] 43)) (Obj.cells #[.slice none 0 0, .int .i64 0, .slice none 0 0, .int .i64 0, .int .i64 0] 43)) = w0 at *
  go_upto_region 2 with (first
    | (have _t := bx; refine wpList_load_midV (o := ⟨some 12, _, _, _, _, _⟩) (by rfl) _ _ rfl (w.heap.size) 0 rfl [.slice AL 0 cL, .int .i64 (d.p : Int), .slice Ao d.out.length co, .int .i64 most, .int .i64 d.e] (block_range (L := [.slice AL 0 cL, .int .i64 (d.p : Int), .slice Ao d.out.length co, .int .i64 most, .int .i64 d.e]) bx) Tryd.underlying43 rfl (by kernel_rfl) ?_; clear _t)
    | (have _t := bx; go_at_call 24; refine (G1.out _).mono ?_; rintro e w1x ⟨rfl, hbx⟩; have xx := bx.below hbx bx.lt; have xz := bz.below hbx bz.lt; have xb := bb.trans (hbx.mono bb.size); clear _t bx bz bb hbx)
    | (have _t := xx; refine wpList_store_blk rfl _ _ _ rfl (ds := [.slice AL 0 cL, .int .i64 (d.p : Int), .slice Ao d.out.length co, .int .i64 most, .int .i64 2]) xx rfl rfl rfl (by kernel_rfl) (by intro u hu; simp only [List.mem_cons, List.not_mem_nil, or_false] at hu; rcases hu with rfl | rfl | rfl | rfl | rfl <;> rfl) ?_; clear _t; intro w1 X9 g9; have bx := X9; have bz := xz.grown g9 (by intro h; injection h with h; omega); have bb := xb.trans (below_of_grown g9 xb.size (fun x hx => by injection hx with hx; omega)); clear X9 g9 xx xz xb))
  try simp only [Act.put]
  go_upto_region 3 with (first
    | (have _t := bx; refine wpList_load_midV (o := ⟨some 17, _, _, _, _, _⟩) (by rfl) _ _ rfl (w.heap.size) 0 rfl [.slice AL 0 cL, .int .i64 (d.p : Int), .slice Ao d.out.length co, .int .i64 most, .int .i64 2] (block_range (L := [.slice AL 0 cL, .int .i64 (d.p : Int), .slice Ao d.out.length co, .int .i64 most, .int .i64 2]) bx) Tryd.underlying43 rfl (by kernel_rfl) ?_; clear _t)
    | (have _t := bx; go_at_call 24; refine (G2.out _).mono ?_; rintro e w2x ⟨rfl, hbx⟩; have xx := bx.below hbx bx.lt; have xz := bz.below hbx bz.lt; have xb := bb.trans (hbx.mono bb.size); clear _t bx bz bb hbx)
    | (have _t := xx; refine wpList_store_blk rfl _ _ _ rfl (ds := [.slice AL 0 cL, .int .i64 (d.p : Int), .slice Ao d.out.length co, .int .i64 most, .int .i64 2]) xx rfl rfl rfl (by kernel_rfl) (by intro u hu; simp only [List.mem_cons, List.not_mem_nil, or_false] at hu; rcases hu with rfl | rfl | rfl | rfl | rfl <;> rfl) ?_; clear _t; intro w2 X9 g9; have bx := X9; have bz := xz.grown g9 (by intro h; injection h with h; omega); have bb := xb.trans (below_of_grown g9 xb.size (fun x hx => by injection hx with hx; omega)); clear X9 g9 xx xz xb))
  try simp only [Act.put]
  go_upto_region 4 with (first
    | (have _t := bx; refine wpList_load_midV (o := ⟨some 21, _, _, _, _, _⟩) (by rfl) _ _ rfl (w.heap.size) 0 rfl [.slice AL 0 cL, .int .i64 (d.p : Int), .slice Ao d.out.length co, .int .i64 most, .int .i64 2] (block_range (L := [.slice AL 0 cL, .int .i64 (d.p : Int), .slice Ao d.out.length co, .int .i64 most, .int .i64 2]) bx) Tryd.underlying43 rfl (by kernel_rfl) ?_; clear _t)
    | (have _t := bx; go_at_call 17; refine (G3.out _ _).mono ?_; rintro e w3x ⟨rfl, hbx⟩; have xx := bx.below hbx bx.lt; have xz := bz.below hbx bz.lt; have xb := bb.trans (hbx.mono bb.size); clear _t bx bz bb hbx)
    | (have _t := xx; refine wpList_store_blk rfl _ _ _ rfl (ds := [.slice AL 0 cL, .int .i64 (d.p : Int), .slice Ao d.out.length co, .int .i64 most, .int .i64 2]) xx rfl rfl rfl (by kernel_rfl) (by intro u hu; simp only [List.mem_cons, List.not_mem_nil, or_false] at hu; rcases hu with rfl | rfl | rfl | rfl | rfl <;> rfl) ?_; clear _t; intro w3 X9 g9; have bx := X9; have bz := xz.grown g9 (by intro h; injection h with h; omega); have bb := xb.trans (below_of_grown g9 xb.size (fun x hx => by injection hx with hx; omega)); clear X9 g9 xx xz xb))
  try simp only [Act.put]
  have k4 : w3.cell? ⟨w.heap.size, 4, none⟩ = some (.int .i64 2) := bx.cell 4
  go_upto_region 5 with fail
  have bxd := Block.drewN bx 1
  have bzd := Block.drewN bz 1
  have bbd := below_draws bb 1
  refine wp_region_held_drew (S := (fun W => Block W w.heap.size 43 #[.slice AL 0 cL, .int .i64 (d.p : Int), .slice Ao d.out.length co, .int .i64 most, .int .i64 2])) (by kernel_rfl) bxd (fun hS => ?_)
  refine wpAnyH_take (i := 0) (oi := ⟨some 28, _, _, _, _, _⟩) (v := .agg #[.slice AL 0 cL, .int .i64 (d.p : Int), .slice Ao d.out.length co, .int .i64 most, .int .i64 2]) rfl (by kernel_rfl) (by kernel_rfl) (by kernel_rfl) (fun _ _ _ h => h) (yieldsIf_load_mid (by rfl) _ _ rfl (w.heap.size) (0) rfl [.slice AL 0 cL, .int .i64 (d.p : Int), .slice Ao d.out.length co, .int .i64 most, .int .i64 2] _ (fun W hW => block_range (L := [.slice AL 0 cL, .int .i64 (d.p : Int), .slice Ao d.out.length co, .int .i64 most, .int .i64 2]) hW) Tryd.underlying43 rfl (by kernel_rfl)) hS ?_
  try simp only [Act.put, List.setIfInBounds_toArray, List.set_cons_zero, List.set_cons_succ]
  refine wpAnyH_take (i := 1) (oi := ⟨some 2, _, _, _, _, _⟩) (v := .bool true) rfl (by kernel_rfl) (by kernel_rfl) (by kernel_rfl) (fun _ _ _ h => h) (Or.inl ⟨by rfl, fun W hW => by go_simp⟩) hS ?_
  try simp only [Act.put, List.setIfInBounds_toArray, List.set_cons_zero, List.set_cons_succ]
  refine wpAnyH_ready (rs := [2]) (by kernel_rfl) (by simp) ?_
  refine AllReadyH.cons rfl (fun K hK => ?_) AllReadyH.nil
  refine step_store_blk rfl _ _ _ rfl (cs := #[.slice none 0 0, .int .i64 0, .slice none 0 0, .int .i64 0, .int .i64 0]) (ds := [.slice AL 0 cL, .int .i64 (d.p : Int), .slice Ao d.out.length co, .int .i64 most, .int .i64 2]) (by exact bzd) rfl rfl rfl (by kernel_rfl) (by intro u hu; simp only [List.mem_cons, List.not_mem_nil, or_false] at hu; rcases hu with rfl | rfl | rfl | rfl | rfl <;> rfl) ?_
  intro w9 X9 g9
  have b9 := bbd.trans (below_of_grown g9 bbd.size (fun x hx => by injection hx with hx; omega))
  refine hK.out _ _ (hS.grown g9 (by intro h; injection h with h; omega)) (fun hS => ?_)
  clear hK K
  try simp only [Act.put, List.setIfInBounds_toArray, List.set_cons_zero, List.set_cons_succ]
  refine wpAnyH_done (by kernel_rfl) ?_ _
  go_wp2_with fail
  exact bodyPost_ret (v := .tuple #[.bool true, .agg #[.slice AL 0 cL, .int .i64 (d.p : Int), .slice Ao d.out.length co, .int .i64 most, .int .i64 2]]) (results_tmp_row rfl _ _ (w.heap.size + 1) 43 _ (0, 0) _ _ rfl rfl X9 Tryd.underlying43 rfl (by kernel_rfl)) rfl (HF.out _ b9)
/-- Any block. -/
theorem block_all (AL : Option Addr) (bits : List Int) (cL : Nat) (Ao : Option Addr) (co : Nat) (most : Int) (s : St) (d : DS) (w : World)
    (h0 : s.ph = 0) (ho : d.out = s.out) (hs : SOk most s d.p) (he : d.e = 0) (hp : d.p ≤ bits.length) (h8 : bits.length % 8 = 0) (hmo : 0 ≤ most ∧ most ≤ 1000000)
    (o : Own w 0 5 .u8 (.slice Ao d.out.length co) d.out) (hB : Bit bits) (hm : bits.length ≤ 100000) (hc : bits.length ≤ cL) (H : Holds w w.heap.size .u8 AL bits) (f : Far (.slice Ao d.out.length co) AL bits) :
    Calls Tryd.prog 16 #[.agg #[.slice AL bits.length cL, .int .i64 (d.p : Int), .slice Ao d.out.length co, .int .i64 most, .int .i64 d.e]] w (BlkTo most s d AL bits cL (.slice Ao d.out.length co) w) := by
  by_cases hb : 0 < bits.length
  · exact block_any AL bits cL Ao co most s d w h0 ho hs he hp h8 hmo o ⟨H, hb, hm, hB, hc⟩ (f hb)
  · obtain rfl : bits = [] := List.length_eq_zero_iff.1 (by omega)
    exact block_none AL cL Ao co most s d w h0 ho he (by simpa using hp) o
end Go.Proofs.YthflefdchgpbdaaDoor.Inf
