/-
  Layer 13, inflate: the document's reader with what it told: what stays while a method works. Conditions: as each theorem names.
  Layer 13, inflate: the document's stored block, as the machine takes it: plain. No conditions beyond what each theorem names.
  Layer 13, inflate: the document's rows of lengths, as the machine takes them: plain. No conditions beyond what each theorem names.
  Layer 13, inflate: the document's lengths of lengths, as the machine takes them: plain. No conditions beyond what each theorem names.
  Layer 13, inflate: the document's fixed lengths and tables, with where their rows lie: contracts. Conditions: as each theorem names.
  Layer 13, inflate: the document's Told, block by block, as the machine takes it: plain. No conditions beyond what each theorem names.
  Layer 13, inflate: what the document tells, and where the machine stands: plain. No conditions beyond what each theorem names.
  Layer 13, inflate: the document's Inflate, over what Told answers: a contract. Conditions: as each theorem names.
-/
import Derived.Test.YthflefdchgpbdaaDoorMIrD
namespace Go.Proofs.YthflefdchgpbdaaDoor.Inf
open Go.ChangeShapes Go.WideShapes Go.ChangeAt Go.RowKit Go.Proofs.YthflefdchgpbdaaDoor.Kit Go.Proofs.YthflefdchgpbdaaDoor.Bits Go.Proofs.YthflefdchgpbdaaDoor.Huf Go.Proofs.YthflefdchgpbdaaDoor.Df

theorem grown_cell (w : World) (g i : Nat) (u : Value) : w.grownBy (w.setCell ⟨g, i, none⟩ u) (some g) := ⟨rfl, rfl, rfl, by simp, fun k _ hk => Below.heap_setCell w ⟨g, i, none⟩ u k (fun e => hk (by rw [e]))⟩
theorem numD_le {k : Nat} {b : List Int} {d : DS} (hp : d.p ≤ b.length) : (numD k b d).2.p ≤ b.length ∧ (numD k b d).2.out = d.out := by
  unfold numD
  split
  · exact ⟨hp, rfl⟩
  · split
    · exact ⟨hp, rfl⟩
    · exact ⟨by simp only; omega, rfl⟩
theorem numD_bd {k : Nat} {b : List Int} {d : DS} (hb : Bit b) (hp : d.p ≤ b.length) : 0 ≤ (numD k b d).1 ∧ (numD k b d).1 < 2 ^ k := by
  have h2 : (0 : Int) < 2 ^ k := Int.pow_pos (by decide)
  unfold numD
  split
  · exact ⟨Int.le_refl _, h2⟩
  · split
    · exact ⟨Int.le_refl _, h2⟩
    · have hl : ((b.drop d.p).take k).length = k := by rw [List.length_take, List.length_drop]; omega
      have := val_bd (l := (b.drop d.p).take k) (fun x hx => hb x (List.mem_of_mem_drop (List.mem_of_mem_take hx)))
      rwa [hl] at this
theorem symD_le {l b : List Int} {d : DS} (hp : d.p ≤ b.length) : (symD l b d).2.p ≤ b.length ∧ (symD l b d).2.out = d.out := by
  unfold symD
  split
  · exact ⟨hp, rfl⟩
  · split
    · rename_i h
      have := told_le h
      rw [List.length_drop] at this
      exact ⟨by simp only; omega, rfl⟩
    · exact ⟨hp, rfl⟩
    · exact ⟨hp, rfl⟩
theorem failD_le (is : Bool) (e : Int) (d : DS) : (failD is e d).p = d.p ∧ (failD is e d).out = d.out := by
  unfold failD
  split <;> exact ⟨rfl, rfl⟩

/-- S as a value. -/
def sO (AL : Option Addr) (nL cL : Nat) (Ao : Option Addr) (co : Nat) (most : Int) (d : DS) : Value := .agg (sC AL nL cL (d.p : Int) Ao d.out.length co most d.e)
/-- What is read lies apart from what was told. -/
def Far (v : Value) (A : Option Addr) (l : List Int) : Prop := 0 < l.length → ∀ a, A = some a → v.ownBlock ≠ some a.block
theorem Far.newer {w : World} {v v' : Value} {A : Option Addr} {l : List Int} {k : IntKind} (h : Far v A l) (n : Newer w v v') (H : Holds w w.heap.size k A l) : Far v' A l := by
  intro hl a ha
  obtain ⟨b, off, e, hb, _⟩ := H hl
  rw [e] at ha
  injection ha with ha
  subst ha
  exact n.apart (u := .slice (some ⟨b, off, none⟩) 0 0) (g := b) rfl hb (h hl _ e)
theorem Holds.turn {w w' : World} {A : Option Addr} {l : List Int} {k : IntKind} {S : Nat → Prop} (H : Holds w w.heap.size k A l) (t : TurnsIn S w w') (f : 0 < l.length → ∀ a, A = some a → ¬ S a.block) : Holds w' w'.heap.size k A l := by
  intro hl
  obtain ⟨b, off, e, hb, hc⟩ := H hl
  refine ⟨b, off, e, Nat.lt_of_lt_of_le hb t.size, fun j hj => ?_⟩
  exact (World.cell?_of_block (w := w) (a := ⟨b, off + j, none⟩) (t.block b hb (f hl _ e))).trans (hc j hj)
theorem Rx.turn {w w' : World} {AL : Option Addr} {bits : List Int} {cL : Nat} {S : Nat → Prop} (h : Rx w AL bits cL) (t : TurnsIn S w w') (f : ∀ a, AL = some a → ¬ S a.block) : Rx w' AL bits cL := ⟨Holds.turn h.h t (fun _ => f), h.p, h.m, h.b, h.c⟩
theorem Cx9.turn {w w' : World} {A1 A2 : Option Addr} {l : List Int} {S : Nat → Prop} (h : Cx9 w A1 l A2) (t : TurnsIn S w w') (f : 0 < l.length → (∀ a, A1 = some a → ¬ S a.block) ∧ (∀ a, A2 = some a → ¬ S a.block)) : Cx9 w' A1 l A2 :=
  ⟨Holds.turn h.h t (fun hl => (f hl).1), Holds.turn h.h2 t (fun hl => (f (by rwa [codes_length] at hl)).2), h.m, h.o⟩

/-- A method at work: its box, its result's cell, what it reads, what was told. -/
structure So (w W : World) (AL : Option Addr) (bits : List Int) (cL : Nat) (most : Int) (v0 : Value) (gz : Nat) (d : DS) (Ao : Option Addr) (co : Nat) : Prop where
  t : TurnsIn (fun b => v0.ownBlock = some b) w W
  x : Block W w.heap.size 43 (sC AL bits.length cL (d.p : Int) Ao d.out.length co most d.e)
  z : Block W gz 43 zS13
  o : Own W 0 5 .u8 (.slice Ao d.out.length co) d.out
  r : Rx W AL bits cL
  q : ∀ a, AL = some a → a.block < w.heap.size
  f : ∀ a, AL = some a → (Value.slice Ao d.out.length co).ownBlock ≠ some a.block
  n : Newer w v0 (.slice Ao d.out.length co)
  g : w.heap.size < gz
section
variable {w W W' : World} {AL : Option Addr} {bits : List Int} {cL : Nat} {most : Int} {v0 : Value} {gz : Nat} {d d' : DS} {Ao : Option Addr} {co : Nat}
theorem So.lt (h : So w W AL bits cL most v0 gz d Ao co) : w.heap.size < W.heap.size ∧ gz < W.heap.size := ⟨h.x.lt, h.z.lt⟩
theorem So.below (h : So w W AL bits cL most v0 gz d Ao co) (hb : Below W.heap.size W W') : So w W' AL bits cL most v0 gz d Ao co :=
  ⟨h.t.trans (.ofNew hb), h.x.below hb h.x.lt, h.z.below hb h.z.lt, h.o.below hb, h.r.below hb, h.q, h.f, h.n, h.g⟩
theorem So.drew (h : So w W AL bits cL most v0 gz d Ao co) : So w W.drew AL bits cL most v0 gz d Ao co := h.below (below_draws (Below.refl _ _) 1)
theorem So.alloc (h : So w W AL bits cL most v0 gz d Ao co) (o : Obj) : So w (W.alloc o) AL bits cL most v0 gz d Ao co := h.below ((Below.refl _ _).alloc (Nat.le_refl _) _)
/-- The box alone turned. -/
theorem So.set (h : So w W AL bits cL most v0 gz d Ao co) (g : W.grownBy W' (some w.heap.size)) (ho : d'.out = d.out) (hx : Block W' w.heap.size 43 (sC AL bits.length cL (d'.p : Int) Ao d'.out.length co most d'.e)) : So w W' AL bits cL most v0 gz d' Ao co := by
  have hb := h.o.ne_block h.x (by decide)
  refine ⟨⟨g.os.trans h.t.os, g.tape.trans h.t.tape, g.output.trans h.t.output, Nat.le_trans h.t.size g.size, fun b hb hs => (g.block b (Nat.lt_of_lt_of_le hb h.t.size) (fun e => by injection e with e; omega)).trans (h.t.block b hb hs)⟩, hx, h.z.grown g (fun e => by injection e with e; have := h.g; omega), ?_, ?_, h.q, ?_, ?_, h.g⟩
  · rw [ho]; exact h.o.kept g (.inr hb)
  · refine h.r.turn (S := fun b => b = w.heap.size) (.ofGrown g fun b e => by injection e with e; exact e.symm) (fun a ha e => ?_)
    have := h.q a ha
    omega
  · rw [ho]; exact h.f
  · rw [ho]; exact h.n
/-- Something of another kind turned: a new block. -/
theorem So.far (h : So w W AL bits cL most v0 gz d Ao co) {G : Nat} (g : W.grownBy W' (some G)) (h1 : w.heap.size ≠ G) (h2 : gz ≠ G) (h3 : w.heap.size ≤ G) (h4 : (Value.slice Ao d.out.length co).ownBlock ≠ some G) : So w W' AL bits cL most v0 gz d Ao co := by
  refine ⟨⟨g.os.trans h.t.os, g.tape.trans h.t.tape, g.output.trans h.t.output, Nat.le_trans h.t.size g.size, fun b hb hs => (g.block b (Nat.lt_of_lt_of_le hb h.t.size) (fun e => by injection e with e; omega)).trans (h.t.block b hb hs)⟩, h.x.grown g (fun e => by injection e with e; omega), h.z.grown g (fun e => by injection e with e; omega), h.o.kept g (.inr h4), ?_, h.q, h.f, h.n, h.g⟩
  refine h.r.turn (S := fun b => b = G) (.ofGrown g fun b e => by injection e with e; exact e.symm) (fun a ha e => ?_)
  have := h.q a ha
  omega
/-- What was told grew. -/
theorem So.grow (h : So w W AL bits cL most v0 gz d Ao co) {A' : Option Addr} {c' : Nat} {ys : List Int} (g : W.grownBy W' (Value.slice Ao d.out.length co).ownBlock) (n : Newer W (.slice Ao d.out.length co) (.slice A' ys.length c'))
    : TurnsIn (fun b => v0.ownBlock = some b) w W' ∧ Block W' w.heap.size 43 (sC AL bits.length cL (d.p : Int) Ao d.out.length co most d.e) ∧ Block W' gz 43 zS13 ∧ Rx W' AL bits cL ∧ (∀ a, AL = some a → (Value.slice A' ys.length c').ownBlock ≠ some a.block) ∧ Newer w v0 (.slice A' ys.length c') := by
  have hx := h.o.ne_block h.x (by decide)
  have hz := h.o.ne_block h.z (by decide)
  have t : TurnsIn (fun b => (Value.slice Ao d.out.length co).ownBlock = some b) W W' := .ofGrown g fun b e => e
  refine ⟨h.t.then_ t (fun b hb e => ?_), h.x.grown g hx, h.z.grown g hz, h.r.turn t (fun a ha => h.f a ha), fun a ha => ?_, h.n.trans h.t.size n⟩
  · rcases h.n with k | k
    · rw [← k]; exact e
    · have := k b e; omega
  · have hq := h.q a ha
    exact n.apart (u := .slice (some a) 0 0) (g := a.block) rfl (by have := h.lt.1; omega) (h.f a ha)
end
/-- What a method answers. -/
def SOut (AL : Option Addr) (bits : List Int) (cL : Nat) (most : Int) (v0 : Value) (d : DS) (w : World) (e : Ending) (w' : World) : Prop :=
  ∃ Ao co, e = .returned (sO AL bits.length cL Ao co most d) ∧ Own w' 0 5 .u8 (.slice Ao d.out.length co) d.out ∧ TurnsIn (fun b => v0.ownBlock = some b) w w' ∧ Newer w v0 (.slice Ao d.out.length co)
/-- The bytes of a stored block. -/
def bytesD (b : List Int) : Nat → DS → DS
  | 0, d => d
  | k + 1, d => if d.e ≠ 0 then d else if (numD 8 b d).2.e = 0 then bytesD b k { (numD 8 b d).2 with out := d.out ++ [(numD 8 b d).1] } else (numD 8 b d).2
theorem bytesD_err {b : List Int} {k : Nat} {d : DS} (h : d.e ≠ 0) : bytesD b k d = d := by
  cases k with
  | zero => rfl
  | succ k => rw [bytesD, if_pos h]

theorem So.of {w W : World} {AL : Option Addr} {bits : List Int} {cL : Nat} {most : Int} {gz : Nat} {d : DS} {Ao : Option Addr} {co : Nat} (hb : Below w.heap.size w W) (hx : Block W w.heap.size 43 (sC AL bits.length cL (d.p : Int) Ao d.out.length co most d.e)) (hz : Block W gz 43 zS13) (hg : w.heap.size < gz)
    (o : Own w 0 5 .u8 (.slice Ao d.out.length co) d.out) (r : Rx w AL bits cL) (f : ∀ a, AL = some a → (Value.slice Ao d.out.length co).ownBlock ≠ some a.block) : So w W AL bits cL most (.slice Ao d.out.length co) gz d Ao co := by
  refine ⟨.ofNew hb, hx, hz, o.below hb, r.below hb, fun a ha => ?_, f, .refl _ _, hg⟩
  obtain ⟨b, off, e, hb, _⟩ := r.h r.p
  rw [ha] at e
  injection e with e
  subst e
  exact hb
theorem So.start2 {w : World} {AL : Option Addr} {bits : List Int} {cL : Nat} {most : Int} {d : DS} {Ao : Option Addr} {co : Nat}
    (o : Own w 0 5 .u8 (.slice Ao d.out.length co) d.out) (r : Rx w AL bits cL) (f : ∀ a, AL = some a → (Value.slice Ao d.out.length co).ownBlock ≠ some a.block) :
    So w ((w.alloc (.cells #[.slice AL bits.length cL, .int .i64 (d.p : Int), .slice Ao d.out.length co, .int .i64 most, .int .i64 d.e] 43)).alloc (.cells #[.slice none 0 0, .int .i64 0, .slice none 0 0, .int .i64 0, .int .i64 0] 43)) AL bits cL most (.slice Ao d.out.length co) (w.heap.size + 1) d Ao co :=
  So.of (below_2 w _ _) ((Block.new w _ _).alloc _) (block_2 w _ _ _) (by omega) o r f
theorem So.start3 {w : World} {AL : Option Addr} {bits : List Int} {cL : Nat} {most : Int} {d : DS} {Ao : Option Addr} {co : Nat} {A1 A2 : Option Addr} {n1 c1 c2 : Nat}
    (o : Own w 0 5 .u8 (.slice Ao d.out.length co) d.out) (r : Rx w AL bits cL) (f : ∀ a, AL = some a → (Value.slice Ao d.out.length co).ownBlock ≠ some a.block) :
    So w (((w.alloc (.cells #[.slice AL bits.length cL, .int .i64 (d.p : Int), .slice Ao d.out.length co, .int .i64 most, .int .i64 d.e] 43)).alloc (.cells #[.slice A1 n1 c1, .slice A2 n1 c2] 65)).alloc (.cells #[.slice none 0 0, .int .i64 0, .slice none 0 0, .int .i64 0, .int .i64 0] 43)) AL bits cL most (.slice Ao d.out.length co) (w.heap.size + 1 + 1) d Ao co ∧
    Block (((w.alloc (.cells #[.slice AL bits.length cL, .int .i64 (d.p : Int), .slice Ao d.out.length co, .int .i64 most, .int .i64 d.e] 43)).alloc (.cells #[.slice A1 n1 c1, .slice A2 n1 c2] 65)).alloc (.cells #[.slice none 0 0, .int .i64 0, .slice none 0 0, .int .i64 0, .int .i64 0] 43)) (w.heap.size + 1) 65 #[.slice A1 n1 c1, .slice A2 n1 c2] :=
  ⟨So.of (below_3 w _ _ _) (((Block.new w _ _).alloc _).alloc _) (block_3 w _ _ _ _) (by omega) o r f, (block_2 w _ _ _).alloc _⟩
section
variable (AL : Option Addr) (bits : List Int) (cL : Nat) (Ao : Option Addr) (no co : Nat) (most : Int) (d : DS) (w : World)
theorem get_lit (k : Nat) (X : Rx w AL bits cL) (hk : k ≤ 32) (hp : d.p ≤ bits.length) :
    Calls Tryd.prog 24 #[.agg #[.slice AL bits.length cL, .int .i64 (d.p : Int), .slice Ao no co, .int .i64 most, .int .i64 d.e], .int .i64 k] w fun x w' =>
      x = .returned (.tuple #[.int .i64 (numD k bits d).1, .agg #[.slice AL bits.length cL, .int .i64 ((numD k bits d).2.p : Int), .slice Ao no co, .int .i64 most, .int .i64 (numD k bits d).2.e]]) ∧ Below w.heap.size w w' := get_any k AL bits cL Ao no co most d w X hk hp
theorem refuse_lit (is : Bool) (E : Int) :
    Calls Tryd.prog 17 #[.agg #[.slice AL bits.length cL, .int .i64 (d.p : Int), .slice Ao no co, .int .i64 most, .int .i64 d.e], .bool is, .int .i64 E] w fun x w' =>
      x = .returned (.agg #[.slice AL bits.length cL, .int .i64 ((failD is E d).p : Int), .slice Ao no co, .int .i64 most, .int .i64 (failD is E d).e]) ∧ Below w.heap.size w w' := refuse_any is E AL bits.length cL Ao no co most d w
theorem next_lit (A1 A2 : Option Addr) (l : List Int) (c1 c2 : Nat) (X : Rx w AL bits cL) (T : Cx9 w A1 l A2) (hp : d.p ≤ bits.length) :
    Calls Tryd.prog 40 #[.agg #[.slice AL bits.length cL, .int .i64 (d.p : Int), .slice Ao no co, .int .i64 most, .int .i64 d.e], .agg #[.slice A1 l.length c1, .slice A2 l.length c2]] w fun x w' =>
      x = .returned (.tuple #[.int .i64 (symD l bits d).1, .agg #[.slice AL bits.length cL, .int .i64 ((symD l bits d).2.p : Int), .slice Ao no co, .int .i64 most, .int .i64 (symD l bits d).2.e]]) ∧ Below w.heap.size w w' := next_any A1 A2 l c1 c2 AL bits cL Ao no co most d w X T hp
end
section
variable {w W W' : World} {AL : Option Addr} {bits : List Int} {cL : Nat} {most : Int} {v0 : Value} {gz : Nat} {d d' : DS} {Ao : Option Addr} {co : Nat}
theorem So.fresh (h : So w W AL bits cL most v0 gz d Ao co) {o : Obj} (g : (W.alloc o).grownBy W' (some W.heap.size)) : So w W' AL bits cL most v0 gz d Ao co := by
  have k := h.lt
  refine (h.alloc o).far g (by omega) (by omega) (by omega) (fun e => ?_)
  have := (h.o.lt _ e).2
  omega
theorem So.done (h : So w W AL bits cL most v0 gz d Ao co) (g : W.grownBy W' (some gz)) : SOut AL bits cL most v0 d w (.returned (.agg #[.slice AL bits.length cL, .int .i64 (d.p : Int), .slice Ao d.out.length co, .int .i64 most, .int .i64 d.e])) W' := by
  have hz := h.o.ne_block h.z (by decide)
  have k := h.g
  exact ⟨Ao, co, rfl, h.o.kept g (.inr hz), h.t.then_ (.ofGrown g (S := fun b => b = gz) fun b e => by injection e with e; exact e.symm) (fun b hb e => by omega), h.n⟩
/-- The field of what was told is stored anew, behind a growth. -/
theorem So.told (h : So w W AL bits cL most v0 gz d Ao co) {A' : Option Addr} {c' : Nat} {ys : List Int} {w5 : World} (g : W.grownBy w5 (Value.slice Ao d.out.length co).ownBlock) (o : Own w5 0 5 .u8 (.slice A' ys.length c') ys) (n : Newer W (.slice Ao d.out.length co) (.slice A' ys.length c')) :
    So w (w5.setCell ⟨w.heap.size, 2, none⟩ (.slice A' ys.length c')) AL bits cL most v0 gz { d with out := ys } A' c' := by
  obtain ⟨t, x, z, r, f, n2⟩ := h.grow g n
  have hb := o.ne_block x (by decide)
  have g9 := grown_cell w5 w.heap.size 2 (.slice A' ys.length c')
  have k := h.lt
  have kg := h.g
  have x2 := x.set_ 2 (.slice A' ys.length c')
  unfold sC at x2
  simp only [List.setIfInBounds_toArray, List.set_cons_zero, List.set_cons_succ] at x2
  refine ⟨⟨g9.os.trans t.os, g9.tape.trans t.tape, g9.output.trans t.output, Nat.le_trans t.size g9.size, fun b hb hs => (g9.block b (Nat.lt_of_lt_of_le hb t.size) (fun e => by injection e with e; omega)).trans (t.block b hb hs)⟩, x2, z.grown g9 (fun e => by injection e with e; omega), o.kept g9 (.inr hb), ?_, h.q, f, n2, h.g⟩
  refine r.turn (S := fun b => b = w.heap.size) (.ofGrown g9 fun b e => by injection e with e; exact e.symm) (fun a ha e => ?_)
  have := h.q a ha
  omega
end
end Go.Proofs.YthflefdchgpbdaaDoor.Inf

namespace Go.Proofs.YthflefdchgpbdaaDoor.Inf
open Go.RowKit Go.Proofs.YthflefdchgpbdaaDoor.Kit Go.Proofs.YthflefdchgpbdaaDoor.Bits Go.Proofs.YthflefdchgpbdaaDoor.Huf Go.Proofs.YthflefdchgpbdaaDoor.Df

theorem bytes_to {most : Int} {b : List Int} : ∀ (n : Nat) (s : St) (d : DS), s.ph = 1 → s.left = n → d.e = 0 → d.p ≤ b.length → d.out = s.out → BlockTo most b s d.p s.last (bytesD b n d) := by
  intro n
  induction n with
  | zero =>
    intro s d h1 hl he hp ho
    exact ⟨s.closed, d.p, .step .refl (by omega) (byte_end h1 hl), ho, hp, .inl ⟨he, rfl, rfl⟩⟩
  | succ m ih =>
    intro s d h1 hl he hp ho
    obtain ⟨⟨v, t⟩, hv⟩ : ∃ r, numD 8 b d = r := ⟨_, rfl⟩
    have g := num_goes hv he hp
    rw [bytesD, if_neg (fun c => c he), hv]
    simp only
    by_cases c : t.e = 0
    · rw [if_pos c]
      obtain ⟨k1, k2, k3⟩ := g.ok c
      have st := byte_some h1 hl k1 (most := most)
      by_cases cm : m = 0
      · subst cm
        rw [if_pos rfl] at st
        refine ⟨_, t.p, .step .refl (by omega) st, by rw [ho]; rfl, k3, .inl ⟨c, rfl, rfl⟩⟩
      · rw [if_neg cm] at st
        have := ih { s with left := m, out := s.out ++ [v] } { t with out := d.out ++ [v] } h1 rfl c k3 (by rw [ho])
        exact this.more (.step .refl (by omega) st)
    · rw [if_neg c]
      obtain ⟨k1, k2, k3⟩ := g.no c
      exact BlockTo.wrong (byte_err h1 (by omega) k1) c (by rw [k2, ho]) k3
end Go.Proofs.YthflefdchgpbdaaDoor.Inf

namespace Go.Proofs.YthflefdchgpbdaaDoor.Inf
open Go.RowKit Go.Proofs.YthflefdchgpbdaaDoor.Kit Go.Proofs.YthflefdchgpbdaaDoor.Bits Go.Proofs.YthflefdchgpbdaaDoor.Huf Go.Proofs.YthflefdchgpbdaaDoor.Df

/-- A round of a row: it goes on, or it is wrong. -/
theorem row_more {l acc b : List Int} {many f : Nat} {d d5 : DS} {y N : Int} (h : ¬ many ≤ acc.length) (g : Goes b d (roundG l many acc b d.p) (y, N) d5) :
    (d5.e = 0 → rowG l many (f + 1) acc b d.p = rowG l many f (acc ++ List.replicate N.toNat y) b d5.p ∧ d5.p ≤ b.length ∧ d5.out = d.out) ∧
    (d5.e ≠ 0 → Err d5.e (rowG l many (f + 1) acc b d.p) ∧ d5.p ≤ b.length ∧ d5.out = d.out) := by
  rw [row_round h]
  refine ⟨fun e => ?_, fun e => ?_⟩
  · obtain ⟨k1, k2, k3⟩ := g.ok e
    exact ⟨bindG_ok _ k1, k3, k2⟩
  · obtain ⟨k1, k2, k3⟩ := g.no e
    exact ⟨k1.bind _, k3, k2⟩
/-- Where the document stands in a row of lengths: at its beginning it was at d. -/
def RowAt (b l : List Int) (many : Nat) (d : DS) (acc : List Int) (di : DS) : Prop :=
  di.p ≤ b.length ∧ di.out = d.out ∧ ((di.e = 0 ∧ ∃ f, 320 ≤ f + acc.length ∧ rowG l many 320 [] b d.p = rowG l many f acc b di.p) ∨ (di.e ≠ 0 ∧ Err di.e (rowG l many 320 [] b d.p)))
theorem RowAt.begin {b l : List Int} {many : Nat} {d : DS} (he : d.e = 0) (hp : d.p ≤ b.length) : RowAt b l many d [] d := ⟨hp, rfl, .inl ⟨he, 320, by simp, rfl⟩⟩
theorem RowAt.next {b l acc : List Int} {many : Nat} {d di d5 : DS} {y N : Int} (h : RowAt b l many d acc di) (he : di.e = 0) (hm : ¬ many ≤ acc.length) (h320 : many ≤ 320) (hN : 1 ≤ N) (g : Goes b di (roundG l many acc b di.p) (y, N) d5) :
    (d5.e = 0 → RowAt b l many d (acc ++ List.replicate N.toNat y) d5) ∧ (d5.e ≠ 0 → ∀ acc', RowAt b l many d acc' d5) := by
  obtain ⟨hp, ho, h | h⟩ := h
  · obtain ⟨_, f, hf, hr⟩ := h
    obtain ⟨f', rfl⟩ : ∃ f', f = f' + 1 := ⟨f - 1, by omega⟩
    obtain ⟨r1, r2⟩ := row_more (f := f') hm g
    refine ⟨fun e => ?_, fun e acc' => ?_⟩
    · obtain ⟨k1, k2, k3⟩ := r1 e
      exact ⟨k2, by rw [k3, ho], .inl ⟨e, f', by rw [List.length_append, List.length_replicate]; omega, by rw [hr, k1]⟩⟩
    · obtain ⟨k1, k2, k3⟩ := r2 e
      exact ⟨k2, by rw [k3, ho], .inr ⟨e, by rw [hr]; exact k1⟩⟩
  · exact absurd he h.1
/-- At the end it is what the machine reads. -/
theorem RowAt.done {b l acc : List Int} {many : Nat} {d di : DS} (h : RowAt b l many d acc di) (hm : many ≤ acc.length ∨ di.e ≠ 0) : Goes b d (rowG l many 320 [] b d.p) acc di := by
  obtain ⟨hp, ho, h | h⟩ := h
  · obtain ⟨he, f, _, hr⟩ := h
    rcases hm with hm | hm
    · refine .inl ⟨he, ?_, ho, hp⟩
      rw [hr]
      cases f with
      | zero => rfl
      | succ f => rw [rowG, if_pos hm]; rfl
    · exact absurd he hm
  · exact .inr ⟨h.1, h.2, ho, hp⟩
end Go.Proofs.YthflefdchgpbdaaDoor.Inf

namespace Go.Proofs.YthflefdchgpbdaaDoor.Inf
open Go.RowKit Go.Proofs.YthflefdchgpbdaaDoor.Kit Go.Proofs.YthflefdchgpbdaaDoor.Bits Go.Proofs.YthflefdchgpbdaaDoor.Huf Go.Proofs.YthflefdchgpbdaaDoor.Df

/-- Where the document stands in the lengths of lengths: i of N were read. -/
def HdrAt (b : List Int) (N : Nat) (d : DS) (i : Nat) (acc : List Int) (di : DS) : Prop :=
  di.p ≤ b.length ∧ di.out = d.out ∧ ((di.e = 0 ∧ hdrG N 0 (List.replicate 19 0) b d.p = hdrG (N - i) i acc b di.p) ∨ (di.e ≠ 0 ∧ Err di.e (hdrG N 0 (List.replicate 19 0) b d.p)))
theorem HdrAt.begin {b : List Int} {N : Nat} {d : DS} (he : d.e = 0) (hp : d.p ≤ b.length) : HdrAt b N d 0 (List.replicate 19 0) d := ⟨hp, rfl, .inl ⟨he, rfl⟩⟩
theorem HdrAt.next {b acc : List Int} {N i : Nat} {d di t : DS} {v : Int} (h : HdrAt b N d i acc di) (he : di.e = 0) (hi : i < N) (hv : numD 3 b di = (v, t)) : HdrAt b N d (i + 1) (acc.set (turnsL.getD i 0).toNat v) t := by
  obtain ⟨hp, ho, h | h⟩ := h
  · obtain ⟨_, hr⟩ := h
    have g := num_goes hv he hp
    rw [show N - i = (N - (i + 1)) + 1 by omega] at hr
    by_cases c : t.e = 0
    · obtain ⟨k1, k2, k3⟩ := g.ok c
      exact ⟨k3, by rw [k2, ho], .inl ⟨c, by rw [hr, hdrG, bindG_ok _ k1]⟩⟩
    · obtain ⟨k1, k2, k3⟩ := g.no c
      exact ⟨k3, by rw [k2, ho], .inr ⟨c, by rw [hr, hdrG]; exact k1.bind _⟩⟩
  · exact absurd he h.1
theorem HdrAt.done {b acc : List Int} {N i : Nat} {d di : DS} (h : HdrAt b N d i acc di) (hi : N ≤ i ∨ di.e ≠ 0) : Goes b d (hdrG N 0 (List.replicate 19 0) b d.p) acc di := by
  obtain ⟨hp, ho, h | h⟩ := h
  · obtain ⟨he, hr⟩ := h
    rcases hi with hi | hi
    · refine .inl ⟨he, ?_, ho, hp⟩
      rw [hr, show N - i = 0 by omega]
      rfl
    · exact absurd he hi
  · exact .inr ⟨h.1, h.2, ho, hp⟩
end Go.Proofs.YthflefdchgpbdaaDoor.Inf

namespace Go.Proofs.YthflefdchgpbdaaDoor.Inf
open Go.ChangeShapes Go.WideShapes Go.ChangeAt Go.RowKit Go.Proofs.YthflefdchgpbdaaDoor.Kit Go.Proofs.YthflefdchgpbdaaDoor.Bits Go.Proofs.YthflefdchgpbdaaDoor.Huf Go.Proofs.YthflefdchgpbdaaDoor.Df

/-- Two rows of lengths of the call's own, in new memory. -/
def TwoOwn (l1 l2 : List Int) (w : World) (e : Ending) (w' : World) : Prop := ∃ A1 c1 A2 c2, e = .returned (.tuple #[.slice A1 l1.length c1, .slice A2 l2.length c2]) ∧ Holds w' w'.heap.size .u8 A1 l1 ∧ Holds w' w'.heap.size .u8 A2 l2 ∧ Below w.heap.size w w' ∧ (∀ a, A1 = some a → w.heap.size ≤ a.block) ∧ (∀ a, A2 = some a → w.heap.size ≤ a.block)
theorem two_own {w w1 w2 : World} {v1 v2 : Value} {l1 l2 : List Int} (h1 : Own w1 w.heap.size 5 .u8 v1 l1) (b1 : Below w.heap.size w w1) (h2 : Own w2 w1.heap.size 5 .u8 v2 l2) (b2 : Below w1.heap.size w1 w2) : TwoOwn l1 l2 w (.returned (.tuple #[v1, v2])) w2 := by
  have h1 := h1.below b2
  have h2 := h2.mono b1.size
  obtain ⟨A1, c1, rfl, _, _, H1⟩ := h1.opened
  obtain ⟨A2, c2, rfl, _, _, H2⟩ := h2.opened
  exact ⟨A1, c1, A2, c2, rfl, H1, H2, b1.trans (b2.mono b1.size), fun a ha => by subst ha; exact (h1.lt a.block rfl).1, fun a ha => by subst ha; exact (h2.lt a.block rfl).1⟩
def MadeOwn (A : Option Addr) (l : List Int) (c : Nat) (w : World) (e : Ending) (w' : World) : Prop := ∃ A2 c2, e = .returned (.agg (cC A l.length c A2 c2)) ∧ Cx9 w' A l A2 ∧ Below w.heap.size w w' ∧ (∀ a, A2 = some a → w.heap.size ≤ a.block)

set_option maxRecDepth 100000 in
set_option maxHeartbeats 3200000 in
theorem rfixed_own (w : World) : Calls Tryd.prog 26 #[] w (TwoOwn fixL fixD w) := by
  have own0 := Own.empty (B := w.heap.size) w 5 .u8 (Nat.le_refl _)
  have hb0 : Below w.heap.size w (w.alloc (.cells #[] 5)) := (Below.refl _ _).alloc (Nat.le_refl _) _
  have HT := Lib.hid fixL_take
  go_enter Tryd.func26, Tryd.ntmps26
  go_wp2_with fail
  go_loopw [2, 3] (fun v s wr => ∃ i : Nat, i ≤ 288 ∧ s = .int .i64 i ∧ Own wr w.heap.size 5 .u8 v (fixL.take i) ∧ Below w.heap.size w wr) (fun _ s _ => 288 - (intOf s).toNat)
  case atStart => exact ⟨0, by omega, rfl, own0, hb0⟩
  case round =>
    obtain ⟨i, hi, rfl, own1, hb1⟩ := hrel
    have z1 := hb1.size
    have hq : (fixL.take i).length ≤ 300 := by rw [List.length_take, fixL_length]; omega
    by_cases h4 : i < 288
    · have j4 : (i : Int) < 288 := by omega
      by_cases h1 : i < 144
      · have hs := Lib.hid (HT.out.1 i h1)
        have j1 : (i : Int) < 144 := by omega
        generalize fixL.take i = q at *
        go_wp2_with (at_builtin; refine wpList_append_one (z := 8) _ rfl _ _ _ rfl elem8 own1 rfl rfl (by omega) (by omega) ?_; intro v4 w4 own4 hg4 hb4)
        go_roundw
        case rel => exact ⟨i + 1, by omega, by go_num, by rw [hs.out]; exact own4, hb1.trans hb4⟩
        case measure => simp [intOf] <;> omega
      · have j1 : ¬ (i : Int) < 144 := by omega
        by_cases h2 : i < 256
        · have hs := Lib.hid (HT.out.2.1 i h2 (by omega))
          have j2 : (i : Int) < 256 := by omega
          generalize fixL.take i = q at *
          go_wp2_with (at_builtin; refine wpList_append_one (z := 9) _ rfl _ _ _ rfl elem8 own1 rfl rfl (by omega) (by omega) ?_; intro v4 w4 own4 hg4 hb4)
          go_roundw
          case rel => exact ⟨i + 1, by omega, by go_num, by rw [hs.out]; exact own4, hb1.trans hb4⟩
          case measure => simp [intOf] <;> omega
        · have j2 : ¬ (i : Int) < 256 := by omega
          by_cases h3 : i < 280
          · have hs := Lib.hid (HT.out.2.2.1 i h3 (by omega))
            have j3 : (i : Int) < 280 := by omega
            generalize fixL.take i = q at *
            go_wp2_with (at_builtin; refine wpList_append_one (z := 7) _ rfl _ _ _ rfl elem8 own1 rfl rfl (by omega) (by omega) ?_; intro v4 w4 own4 hg4 hb4)
            go_roundw
            case rel => exact ⟨i + 1, by omega, by go_num, by rw [hs.out]; exact own4, hb1.trans hb4⟩
            case measure => simp [intOf] <;> omega
          · have hs := Lib.hid (HT.out.2.2.2 i h4 (by omega))
            have j3 : ¬ (i : Int) < 280 := by omega
            generalize fixL.take i = q at *
            go_wp2_with (at_builtin; refine wpList_append_one (z := 8) _ rfl _ _ _ rfl elem8 own1 rfl rfl (by omega) (by omega) ?_; intro v4 w4 own4 hg4 hb4)
            go_roundw
            case rel => exact ⟨i + 1, by omega, by go_num, by rw [hs.out]; exact own4, hb1.trans hb4⟩
            case measure => simp [intOf] <;> omega
    · obtain rfl : i = 288 := by omega
      rw [List.take_of_length_le (by rw [fixL_length]; omega)] at own1
      have own2 := Own.empty (B := wr.heap.size) wr 5 .u8 (Nat.le_refl _)
      have hb2 : Below wr.heap.size wr (wr.alloc (.cells #[] 5)) := (Below.refl _ _).alloc (Nat.le_refl _) _
      have O1 := Lib.hid own1
      have B1 := Lib.hid hb1
      clear own0 hb0 own1 hb1 h4 hq z1
      rw [show ((288 : Nat) : Int) = 288 from rfl]
      go_wp2_with fail
      go_loopw [5, 6] (fun v s wq => ∃ j : Nat, j ≤ 32 ∧ s = .int .i64 j ∧ Own wq wr.heap.size 5 .u8 v (List.replicate j 5) ∧ Below wr.heap.size wr wq) (fun _ s _ => 32 - (intOf s).toNat)
      case atStart => exact ⟨0, by omega, rfl, own2, hb2⟩
      case round =>
        obtain ⟨j, hj, rfl, own3, hb3⟩ := hrel
        have z3 := hb3.size
        by_cases h5 : j < 32
        · have j5 : (j : Int) < 32 := by omega
          have hl : (List.replicate j (5 : Int)).length ≤ 32 := by rw [List.length_replicate]; omega
          have hs : List.replicate (j + 1) (5 : Int) = List.replicate j 5 ++ [5] := List.replicate_succ'
          have HS := Lib.hid hs
          clear hs
          generalize List.replicate j (5 : Int) = q at *
          go_wp2_with (at_builtin; refine wpList_append_one (z := 5) _ rfl _ _ _ rfl elem8 own3 rfl rfl (by omega) (by omega) ?_; intro v4 w4 own4 hg4 hb4)
          go_roundw
          case rel => exact ⟨j + 1, by omega, by go_num, by rw [HS.out]; exact own4, hb3.trans hb4⟩
          case measure => simp [intOf] <;> omega
        · obtain rfl : j = 32 := by omega
          have T2 := Lib.hid (two_own O1.out B1.out own3 hb3)
          clear own3 hb3 own2 hb2 h5
          go_wp2_with fail
          go_ret2
          exact T2.out
set_option maxRecDepth 100000 in
set_option maxHeartbeats 1600000 in
theorem made_own (A : Option Addr) (l : List Int) (c : Nat) (w : World) (ho : Octets l) (hm : mayB l = true) (hr : Holds w w.heap.size .u8 A l) :
    Calls Tryd.prog 29 #[.slice A l.length c] w (MadeOwn A l c w) := by
  have b1 : ∀ cs, Below w.heap.size w (w.alloc (.cells cs 65)) := fun cs => (Below.refl _ _).alloc (Nat.le_refl _) _
  have x1 := Block.new w 65 #[.slice none 0 0, .slice none 0 0]
  have G := Lib.hid (rcodes_any A l c (w.alloc (.cells #[.slice none 0 0, .slice none 0 0] 65)) ho (may_yes hm).1 (may_yes hm).2 ((hr.below (b1 _)).more (b1 _).size))
  have HR := Lib.hid hr
  have hb1 := b1 #[.slice none 0 0, .slice none 0 0]
  have HO := Lib.hid (And.intro hm ho)
  clear hr b1 hm ho
  go_enter Tryd.func29, Tryd.ntmps29
  go_wp2_with fail
  refine G.out.mono ?_
  rintro e w4 ⟨v, rfl, own, hb4⟩
  have x4 := x1.below hb4 (by simp)
  have B4 := hb1.trans (hb4.mono hb1.size)
  have hne : v.ownBlock ≠ some w.heap.size := fun h => by have := (own.lt _ h).1; simp at this; omega
  obtain ⟨A2, c2, rfl, _, _, _⟩ := own.opened
  have HN := Lib.hid hne
  clear hne hb4 hb1 x1
  rw [codes_length] at *
  go_wp2_with (have _t := x4; refine wpList_store_blk rfl _ _ _ rfl (ds := [.slice A l.length c, .slice A2 l.length c2]) x4 rfl rfl rfl (by kernel_rfl) (by intro u hu; simp only [List.mem_cons, List.not_mem_nil, or_false] at hu; rcases hu with rfl | rfl <;> rfl) ?_; clear _t; intro w5 X5 g5)
  have own5 := own.kept g5 (.inr HN.out)
  have H5 := own5.opened
  obtain ⟨A3, c3, e3, _, _, H3⟩ := H5
  rw [codes_length] at e3
  injection e3 with e3 e4 e5
  subst e3
  have B5 := B4.trans (below_of_grown g5 B4.size (fun x hx => by injection hx with hx; have := X5.lt; omega))
  exact bodyPost_ret (v := .agg #[.slice A l.length c, .slice A2 l.length c2]) (results_cell_row rfl _ _ w.heap.size 65 _ (0, 0) _ rfl X5 Tryd.underlying65 rfl (by kernel_rfl)) rfl
    ⟨A2, c2, rfl, ⟨(HR.out.below B5).more B5.size, H3, HO.out.1, HO.out.2⟩, B5, fun a ha => by subst ha; have := (own5.lt a.block rfl).1; simp at this; omega⟩
end Go.Proofs.YthflefdchgpbdaaDoor.Inf

namespace Go.Proofs.YthflefdchgpbdaaDoor.Inf
open Go.RowKit Go.Proofs.YthflefdchgpbdaaDoor.Kit Go.Proofs.YthflefdchgpbdaaDoor.Bits Go.Proofs.YthflefdchgpbdaaDoor.Huf Go.Proofs.YthflefdchgpbdaaDoor.Df

/-- Where the document stands between blocks. -/
def TellAt (most : Int) (b : List Int) (s0 : St) (d : DS) : Prop := ∃ s, Reach most b s0 0 s d.p ∧ s.ph = 0 ∧ d.out = s.out ∧ d.e = 0 ∧ d.p ≤ b.length
/-- How it ends, ahead of the last word on what is left. -/
def TellEnd (most : Int) (b : List Int) (s0 : St) (d : DS) : Prop := ∃ t q, Reach most b s0 0 t q ∧ d.out = t.out ∧ Ends most b t q (failD (decide ((d.p + 7) / 8 * 8 < b.length)) 3 d).e
theorem TellAt.begin {most : Int} {b : List Int} {s0 : St} (h : s0.ph = 0) : TellAt most b s0 ⟨0, s0.out, 0⟩ := ⟨s0, .refl, h, rfl, rfl, Nat.zero_le _⟩
theorem tell_next {most : Int} {b : List Int} {s0 s : St} {d d' : DS} {last : Bool} (R : Reach most b s0 0 s d.p) (B : BlockTo most b s d.p last d') :
    (d'.e = 0 → last = false → TellAt most b s0 d') ∧ (d'.e = 0 → last = true → TellEnd most b s0 d') ∧ (d'.e ≠ 0 → TellEnd most b s0 d') := by
  obtain ⟨t, q, r, ho, hp, h⟩ := B
  have R2 := R.trans r
  refine ⟨fun e l => ?_, fun e l => ?_, fun e => ?_⟩
  · rcases h with ⟨_, hq, hph⟩ | ⟨e', _⟩
    · subst hq
      rw [l] at hph
      exact ⟨t, R2, by simpa using hph, ho, e, hp⟩
    · exact absurd e e'
  · rcases h with ⟨_, hq, hph⟩ | ⟨e', _⟩
    · subst hq
      rw [l, if_pos rfl] at hph
      refine ⟨t, d'.p, R2, ho, .inl ⟨hph, ?_⟩⟩
      unfold failD
      by_cases c : (d'.p + 7) / 8 * 8 < b.length
      · rw [decide_eq_true c, if_pos ⟨rfl, e⟩, if_pos c]
      · rw [decide_eq_false c, if_neg (fun h => by cases h.1), if_neg c, e]
    · exact absurd e e'
  · rcases h with ⟨e', _⟩ | ⟨_, hE⟩
    · exact absurd e' e
    · refine ⟨t, q, R2, ho, ?_⟩
      have : failD (decide ((d'.p + 7) / 8 * 8 < b.length)) 3 d' = d' := fail_err rfl e
      rw [this]
      exact hE
end Go.Proofs.YthflefdchgpbdaaDoor.Inf

namespace Go.Proofs.YthflefdchgpbdaaDoor.Inf
open Go.RowKit Go.Proofs.YthflefdchgpbdaaDoor.Kit Go.Proofs.YthflefdchgpbdaaDoor.Bits Go.Proofs.YthflefdchgpbdaaDoor.Huf Go.Proofs.YthflefdchgpbdaaDoor.Df

/-- What the document tells: the text, the error. -/
def Tells (most : Int) (b : List Int) (out : List Int) (e : Int) : Prop := ∃ s p, Stands most b s p e ∧ out = s.out
theorem TellEnd.tells {most : Int} {b : List Int} {d : DS} (h : TellEnd most (bitsOf b) St.new d) : Tells most b d.out (failD (decide ((d.p + 7) / 8 * 8 < (bitsOf b).length)) 3 d).e := by
  obtain ⟨t, q, r, ho, he⟩ := h
  exact ⟨t, q, ⟨r, he⟩, ho⟩
theorem Tells.one {most : Int} {b out : List Int} {e f : Int} {s : St} {p : Nat} (h : Tells most b out e) (g : Stands most b s p f) : out = s.out ∧ e = f := by
  obtain ⟨t, q, k, ho⟩ := h
  obtain ⟨h1, _, h3⟩ := k.one g
  subst h1
  exact ⟨ho, h3⟩
theorem tells_begin {most : Int} {b : List Int} : TellAt most b St.new ⟨0, [], 0⟩ := TellAt.begin rfl
end Go.Proofs.YthflefdchgpbdaaDoor.Inf

namespace Go.Proofs.YthflefdchgpbdaaDoor.Inf
open Go.ChangeShapes Go.WideShapes Go.ChangeAt Go.RowKit Go.Proofs.YthflefdchgpbdaaDoor.Kit Go.Proofs.YthflefdchgpbdaaDoor.Bits Go.Proofs.YthflefdchgpbdaaDoor.Huf Go.Proofs.YthflefdchgpbdaaDoor.Df

/-- A text and an error. -/
def TextTo (P : List Int → Int → Prop) (w : World) (e : Ending) (w' : World) : Prop :=
  ∃ A c out e0, e = .returned (.tuple #[.slice A (List.length out) c, .int .i64 e0]) ∧ Holds w' w'.heap.size .u8 A out ∧ Below w.heap.size w w' ∧ P out e0

set_option maxRecDepth 100000 in
set_option maxHeartbeats 1600000 in
theorem rinflate_of (P : List Int → Int → Prop) (A : Option Addr) (n c : Nat) (most : Int) (w : World) (hT : Calls Tryd.prog 10 #[.slice A n c, .int .i64 most] w (TextTo P w)) :
    Calls Tryd.prog 7 #[.slice A n c, .int .i64 most] w (TextTo (fun out e0 => ∃ o, P o e0 ∧ out = if e0 = 0 then o else []) w) := by
  have G := Lib.hid hT
  clear hT
  go_enter Tryd.func7, Tryd.ntmps7
  go_wp2_with fail
  refine G.out.mono ?_
  rintro e w1 ⟨A1, c1, out, e0, rfl, h1, b1, p1⟩
  by_cases he : e0 = 0
  · subst he
    have F : TextTo (fun out e0 => ∃ o, P o e0 ∧ out = if e0 = 0 then o else []) w (.returned (.tuple #[.slice A1 out.length c1, .int .i64 0])) w1 := ⟨A1, c1, out, 0, rfl, h1, b1, out, p1, by rw [if_pos rfl]⟩
    have HF := Lib.hid F
    clear F h1 b1 p1 G
    go_wp2
    go_ret2
    exact HF.out
  · have z : (e0 == 0) = false := by rw [beq_eq_false_iff_ne]; exact he
    have b2 : Below w.heap.size w (w1.alloc (.cells #[] 5)) := b1.trans (((Below.refl _ _).alloc (Nat.le_refl _) _).mono b1.size)
    have F : TextTo (fun out e0 => ∃ o, P o e0 ∧ out = if e0 = 0 then o else []) w (.returned (.tuple #[.slice (some ⟨w1.heap.size, 0, none⟩) 0 0, .int .i64 e0])) (w1.alloc (.cells #[] 5)) := ⟨some ⟨w1.heap.size, 0, none⟩, 0, [], e0, rfl, (fun h => absurd h (by simp)), b2, out, p1, by rw [if_neg he]⟩
    have HF := Lib.hid F
    clear F h1 b1 b2 p1 G he
    go_wp2
    go_ret2
    exact HF.out
end Go.Proofs.YthflefdchgpbdaaDoor.Inf
