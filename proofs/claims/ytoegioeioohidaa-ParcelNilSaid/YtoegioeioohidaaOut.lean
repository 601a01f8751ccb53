/-
  Own words: a world that has turned in some blocks alone (and has new ones). No program. No conditions beyond what each theorem names.
-/
import Derived.Test.YtoegioeioohidaaMem
namespace Go.Proofs.Ytoegioeioohidaa.Kit
open Go.ChangeShapes Go.WideShapes Go.ChangeAt Go.RowKit

/-- From w to w' nothing has turned but blocks in S and new ones. -/
structure TurnsIn (S : Nat → Prop) (w w' : World) : Prop where
  os : w'.os = w.os
  tape : w'.tape = w.tape
  output : w'.output = w.output
  size : w.heap.size ≤ w'.heap.size
  block : ∀ b, b < w.heap.size → ¬ S b → w'.heap[b]? = w.heap[b]?

section
variable {S T : Nat → Prop} {w w' w1 w2 : World} {B : Nat} {e : TypeId} {k : IntKind} {v : Value} {xs : List Int}

theorem TurnsIn.refl (S : Nat → Prop) (w : World) : TurnsIn S w w := ⟨rfl, rfl, rfl, Nat.le_refl _, fun _ _ _ => rfl⟩
theorem TurnsIn.trans (h : TurnsIn S w w1) (g : TurnsIn S w1 w2) : TurnsIn S w w2 :=
  ⟨g.os.trans h.os, g.tape.trans h.tape, g.output.trans h.output, Nat.le_trans h.size g.size, fun b hb hs => (g.block b (Nat.lt_of_lt_of_le hb h.size) hs).trans (h.block b hb hs)⟩
/-- The second step may turn what is new in the first one, too. -/
theorem TurnsIn.then_ (h : TurnsIn S w w1) (g : TurnsIn T w1 w2) (hT : ∀ b, b < w.heap.size → T b → S b) : TurnsIn S w w2 :=
  ⟨g.os.trans h.os, g.tape.trans h.tape, g.output.trans h.output, Nat.le_trans h.size g.size, fun b hb hs => (g.block b (Nat.lt_of_lt_of_le hb h.size) (fun ht => hs (hT b hb ht))).trans (h.block b hb hs)⟩
theorem TurnsIn.mono (h : TurnsIn S w w') (hT : ∀ b, b < w.heap.size → S b → T b) : TurnsIn T w w' := ⟨h.os, h.tape, h.output, h.size, fun b hb hs => h.block b hb (fun hx => hs (hT b hb hx))⟩
theorem TurnsIn.ofBelow (h : Below B w w') (hs : ∀ b, b < w.heap.size → B ≤ b → S b) : TurnsIn S w w' :=
  ⟨h.os, h.tape, h.output, h.size, fun b hb hn => h.block b (Nat.lt_of_not_le fun hle => hn (hs b hb hle))⟩
theorem TurnsIn.ofNew (h : Below w.heap.size w w') : TurnsIn S w w' := .ofBelow h fun b hb hle => absurd hb (by omega)
theorem TurnsIn.ofGrown {row : Option Nat} (h : w.grownBy w' row) (hs : ∀ b, row = some b → S b) : TurnsIn S w w' :=
  ⟨h.os, h.tape, h.output, h.size, fun b hb hn => h.block b hb fun he => hn (hs b he.symm)⟩
theorem TurnsIn.toBelow (h : TurnsIn S w w') (hB : B ≤ w.heap.size) (hs : ∀ b, b < B → ¬ S b) : Below B w w' :=
  ⟨h.os, h.tape, h.output, h.size, fun b hb => h.block b (by omega) (hs b hb)⟩
theorem TurnsIn.drewN (h : TurnsIn S w w') (n : Nat) : TurnsIn S w (w'.drewN n) := ⟨h.os, h.tape, h.output, h.size, h.block⟩
theorem TurnsIn.alloc (h : TurnsIn S w w') (o : Obj) : TurnsIn S w (w'.alloc o) :=
  ⟨h.os, h.tape, h.output, Nat.le_trans h.size (by simp), fun b hb hn => (Below.heap_alloc w' o b (Nat.lt_of_lt_of_le hb h.size)).trans (h.block b hb hn)⟩
theorem TurnsIn.setCell (h : TurnsIn S w w') {p : Addr} (hp : S p.block ∨ w.heap.size ≤ p.block) (u : Value) : TurnsIn S w (w'.setCell p u) :=
  ⟨h.os, h.tape, h.output, by simpa [World.setCell] using h.size, fun b hb hn => (Below.heap_setCell w' p u b (by
    rintro rfl
    rcases hp with hp | hp
    · exact hn hp
    · omega)).trans (h.block b hb hn)⟩

theorem Own.out (h : Own w B e k v xs) (ho : TurnsIn S w w') (hv : ∀ g, v.ownBlock = some g → ¬ S g) : Own w' B e k v xs := by
  rcases h.2 with ⟨rfl, h0⟩ | ⟨g, cap, cur, rfl, hbg, hg, hnc, hcm, hcs, htake⟩
  · exact ⟨h.1, .inl ⟨rfl, h0⟩⟩
  · exact ⟨h.1, .inr ⟨g, cap, cur, rfl, hbg, (ho.block g (Array.getElem?_eq_some_iff.1 hg).1 (hv g rfl)).trans hg, hnc, hcm, hcs, htake⟩⟩
theorem Block.out {g : Nat} {t : TypeId} {cs : Array Value} (h : Block w g t cs) (ho : TurnsIn S w w') (hg : ¬ S g) : Block w' g t cs := (ho.block g h.lt hg).trans h
theorem Holds.out {A : Option Addr} (h : Holds w B k A xs) (ho : TurnsIn S w w') (hB : B ≤ w.heap.size) (hs : ∀ b, b < B → ¬ S b) : Holds w' B k A xs := h.below (ho.toBelow hB hs)

/-- What turned keeps a block's kind of row: a row that grew lies where it lay, or is new. -/
def Newer (w : World) (v v' : Value) : Prop := v'.ownBlock = v.ownBlock ∨ ∀ g, v'.ownBlock = some g → w.heap.size ≤ g
theorem Newer.refl (w : World) (v : Value) : Newer w v v := .inl rfl
theorem Newer.trans {v1 v2 : Value} (h : Newer w v v1) (hs : w.heap.size ≤ w1.heap.size) (g : Newer w1 v1 v2) : Newer w v v2 := by
  rcases g with g | g
  · rcases h with h | h
    · exact .inl (g.trans h)
    · exact .inr fun x hx => h x (g ▸ hx)
  · exact .inr fun x hx => Nat.le_trans hs (g x hx)
theorem Newer.ofApp {v' : Value} (h : v'.ownBlock = v.ownBlock ∨ v'.ownBlock = some w.heap.size) : Newer w v v' := by
  rcases h with h | h
  · exact .inl h
  · exact .inr fun g hg => by rw [h] at hg; injection hg with hg; omega
/-- A row of one's own that lies apart from another one stays apart. -/
theorem Newer.apart {v' u : Value} {g : Nat} (h : Newer w v v') (hu : u.ownBlock = some g) (hl : g < w.heap.size) (hn : v.ownBlock ≠ some g) : v'.ownBlock ≠ some g := by
  rcases h with h | h
  · rw [h]; exact hn
  · intro he; have := h g he; omega
end

/-- append(v, ys...), as one step of a region that draws its order. -/
theorem step_append_ints {P : Program} {ops : Array Oper} {o : Oper} {a : Act} {w : World} {K : Act → World → Prop} {Q : Exit → Act → World → Prop} {E : Prop}
    (hg : o.guard = none) (s x : Operand) (t : TypeId) (ho : o.op = Op.call { callee := Callee.builtin Builtin.append, args := #[s, x], argTypes := #[t, t] })
    {e : TypeId} {k : IntKind} {bytes : Nat} (he : IntElem P t e k bytes) {B B' : Nat} {v : Value} {xs ys : List Int} (hown : Own w B e k v xs) (hs : a.eval s = v)
    {A : Option Addr} {c : Nat} (hx : a.eval x = .slice A ys.length c) (hr : Holds w B' k A ys) (hsz : xs.length + ys.length ≤ 1099511627776) (hbase : B ≤ w.heap.size)
    (hK : ∀ v' w', Own w' B e k v' (xs ++ ys) → w.grownBy w' v.ownBlock → Below B w w' → (v'.ownBlock = v.ownBlock ∨ v'.ownBlock = some w.heap.size) → K (a.put o.dst v') w') :
    if Region.wanted o (yielded ops a.tmps) = true then Oper.wp P o a w K Q else E := by
  have hw : Region.wanted o (yielded ops a.tmps) = true := by simp [Region.wanted, hg]
  rw [if_pos hw]
  obtain ⟨v', w', hrun, h2, h3, h4⟩ := run_append_ints (P := P) w (ty := o.type) he hown c hr hsz hbase
  unfold Oper.wp
  simp [execOp, ho, resolve, invoke, builtin, hs, hx, hrun, Result.andThen]
  exact hK _ _ h2 h3 (below_of_grown h3 hbase fun g hg => (hown.lt g hg).1) h4

/-- append(v, z), z alone in the newest block, as one step of a region that draws its order; a block of other cells stays as it is. -/
theorem step_append_one {P : Program} {ops : Array Oper} {o : Oper} {a : Act} {w : World} {K : Act → World → Prop} {Q : Exit → Act → World → Prop} {E : Prop}
    (hg : o.guard = none) (s x : Operand) (t : TypeId) (ho : o.op = Op.call { callee := Callee.builtin Builtin.append, args := #[s, x], argTypes := #[t, t] })
    {e : TypeId} {k : IntKind} {bytes : Nat} (he : IntElem P t e k bytes) {B : Nat} {v : Value} {xs : List Int} {z : Int} (hown : Own w B e k v xs) (hs : a.eval s = v)
    {c : Nat} (hx : a.eval x = .slice (some ⟨w.heap.size, 0, none⟩) 1 c) (hsz : xs.length + 1 ≤ 1099511627776) (hbase : B ≤ w.heap.size)
    {g : Nat} {tg : TypeId} {cs : Array Value} (hblk : Block w g tg cs) (hne : e ≠ tg)
    (hK : ∀ A' c' w', Own w' B e k (.slice A' (xs.length + 1) c') (xs ++ [z]) → TurnsIn (fun b => v.ownBlock = some b) w w' → Newer w v (.slice A' (xs.length + 1) c') → Block w' g tg cs → K (a.put o.dst (.slice A' (xs.length + 1) c')) w') :
    if Region.wanted o (yielded ops a.tmps) = true then Oper.wp P o a (w.alloc (.cells #[.int k z] e)) K Q else E := by
  refine step_append_ints (ys := [z]) hg s x t ho he (hown.alloc _) hs hx (Holds.new w k z e) (by simpa using hsz) (by simp; omega) ?_
  intro v' w' h1 h2 h3 h4
  obtain ⟨A', c', rfl, _, _, _⟩ := h1.opened
  have hlen : (xs ++ [z]).length = xs.length + 1 := by simp
  have hk := hK A' c' w'
  rw [hlen] at h1 h4
  rw [hlen]
  refine hk h1 (((TurnsIn.refl _ w).alloc _).trans (.ofGrown h2 fun b hb => hb)) ?_ ((hblk.alloc _).grown h2 (hown.ne_block hblk hne))
  rcases h4 with h4 | h4
  · exact .inl h4
  · exact .inr fun g hg => by rw [h4] at hg; simp at hg; omega

/-- The same behind the region's draw. -/
theorem step_append_one_drew {P : Program} {ops : Array Oper} {o : Oper} {a : Act} {w : World} {K : Act → World → Prop} {Q : Exit → Act → World → Prop} {E : Prop}
    (hg : o.guard = none) (s x : Operand) (t : TypeId) (ho : o.op = Op.call { callee := Callee.builtin Builtin.append, args := #[s, x], argTypes := #[t, t] })
    {e : TypeId} {k : IntKind} {bytes : Nat} (he : IntElem P t e k bytes) {B : Nat} {v : Value} {xs : List Int} {z : Int} (hown : Own w B e k v xs) (hs : a.eval s = v)
    {c : Nat} (hx : a.eval x = .slice (some ⟨w.heap.size, 0, none⟩) 1 c) (hsz : xs.length + 1 ≤ 1099511627776) (hbase : B ≤ w.heap.size)
    {g : Nat} {tg : TypeId} {cs : Array Value} (hblk : Block w g tg cs) (hne : e ≠ tg)
    (hK : ∀ A' c' w', Own w' B e k (.slice A' (xs.length + 1) c') (xs ++ [z]) → TurnsIn (fun b => v.ownBlock = some b) w w' → Newer w v (.slice A' (xs.length + 1) c') → Block w' g tg cs → K (a.put o.dst (.slice A' (xs.length + 1) c')) w') :
    if Region.wanted o (yielded ops a.tmps) = true then Oper.wp P o a (w.alloc (.cells #[.int k z] e)).drew K Q else E := by
  have h := step_append_one (E := E) (K := K) (Q := Q) (ops := ops) (w := w.drew) (z := z) hg s x t ho he (by exact hown) hs hx hsz hbase (by exact hblk) hne
    (fun A' c' w' h1 h2 h3 h4 => hK A' c' w' h1 ⟨h2.os, h2.tape, h2.output, h2.size, h2.block⟩ h3 h4)
  exact h
end Go.Proofs.Ytoegioeioohidaa.Kit
