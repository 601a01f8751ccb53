/-
  Own words: append of one integer, as one step of a plain region, with all that a caller wants to know. No program. No conditions beyond what each theorem names.
-/
import Derived.Test.YtlcnbepldkbkgaaMGDcks4
namespace Go.Proofs.Ytlcnbepldkbkgaa.Kit
open Go.ChangeShapes Go.WideShapes Go.ChangeAt Go.RowKit

theorem Own.turned {w w' : World} {B : Nat} {e : TypeId} {k : IntKind} {v : Value} {xs : List Int} (h : Own w B e k v xs) (t : TurnsIn (fun b => v.ownBlock = some b) w w') (hB : B ≤ w.heap.size) : Below B w w' :=
  t.toBelow hB fun b hb he => by have := h.lt b he; omega

theorem Block.cellOf {w : World} {g : Nat} {t : TypeId} {cs : Array Value} (h : Block w g t cs) (i : Nat) {u : Value} (hu : cs[i]? = some u) : w.cell? ⟨g, i, none⟩ = some u := (h.cell i).trans hu

theorem Block.apart {w w' : World} {B g : Nat} {e t : TypeId} {k : IntKind} {v : Value} {xs : List Int} {cs : Array Value} (hb : Block w g t cs) (h : Own w B e k v xs) (hne : e ≠ t) (tu : TurnsIn (fun b => v.ownBlock = some b) w w') : Block w' g t cs :=
  hb.out tu (h.ne_block hb hne)

theorem TurnsIn.row {w w1 w2 : World} {v v1 : Value} (t1 : TurnsIn (fun b => v.ownBlock = some b) w w1) (n1 : Newer w v v1) (t2 : TurnsIn (fun b => v1.ownBlock = some b) w1 w2) : TurnsIn (fun b => v.ownBlock = some b) w w2 :=
  t1.then_ t2 fun b hb hv => by
    rcases n1 with h | h
    · rw [← h]; exact hv
    · have := h b hv; omega

section
variable {P : Program} (w : World)

/-- append(v, ys...), as one step of a region that draws its order: what turned is v's row, or what is new. -/
theorem step_append_out {ops : Array Oper} {o : Oper} {a : Act} {K : Act → World → Prop} {Q : Exit → Act → World → Prop} {E : Prop}
    (hg : o.guard = none) (s x : Operand) (t : TypeId) (ho : o.op = Op.call { callee := Callee.builtin Builtin.append, args := #[s, x], argTypes := #[t, t] })
    {e : TypeId} {k : IntKind} {bytes : Nat} (he : IntElem P t e k bytes) {B B' : Nat} {v : Value} {xs ys : List Int} (hown : Own w B e k v xs) (hs : a.eval s = v)
    {A : Option Addr} {c : Nat} (hx : a.eval x = .slice A ys.length c) (hr : Holds w B' k A ys) (hsz : xs.length + ys.length ≤ 1099511627776) (hbase : B ≤ w.heap.size)
    (hK : ∀ A' c' w', Own w' B e k (.slice A' (xs.length + ys.length) c') (xs ++ ys) → TurnsIn (fun b => v.ownBlock = some b) w w' → Newer w v (.slice A' (xs.length + ys.length) c') → K (a.put o.dst (.slice A' (xs.length + ys.length) c')) w') :
    if Region.wanted o (yielded ops a.tmps) = true then Oper.wp P o a w K Q else E := by
  refine step_append_ints hg s x t ho he hown hs hx hr hsz hbase ?_
  intro v' w' h1 h2 _ h4
  obtain ⟨A', c', rfl, _, _, _⟩ := h1.opened
  have hlen : (xs ++ ys).length = xs.length + ys.length := by simp
  have hk := hK A' c' w'
  rw [hlen] at h1 h4
  rw [hlen]
  exact hk h1 (.ofGrown h2 fun b hb => hb) (Newer.ofApp h4)

/-- append(v, ys...): what turned is v's row, or what is new. -/
theorem wpList_append_out {ops : Array Oper} {rest : List Oper} {o : Oper} {a : Act} {Q : Exit → Act → World → Prop} (hgd : o.guard = none) (s x : Operand) (t : TypeId)
    (ho : o.op = .call { callee := .builtin .append, args := #[s, x], argTypes := #[t, t] }) {e : TypeId} {k : IntKind} {bytes : Nat} (he : IntElem P t e k bytes)
    {B B' : Nat} {v : Value} {xs ys : List Int} (hown : Own w B e k v xs) (hs : a.eval s = v)
    {A : Option Addr} {c : Nat} (hx : a.eval x = .slice A ys.length c) (hr : Holds w B' k A ys) (hsz : xs.length + ys.length ≤ 1099511627776) (hbase : B ≤ w.heap.size)
    (h : ∀ A' c' w', Own w' B e k (.slice A' (xs.length + ys.length) c') (xs ++ ys) → TurnsIn (fun b => v.ownBlock = some b) w w' → Newer w v (.slice A' (xs.length + ys.length) c') → wpList P ops Q rest (a.put o.dst (.slice A' (xs.length + ys.length) c')) w') :
    wpList P ops Q (o :: rest) a w := by
  refine wpList_append_ints _ hgd s x t ho he hown hs hx hr hsz hbase ?_
  intro v' w' h1 h2 _ h4
  obtain ⟨A', c', rfl, _, _, _⟩ := h1.opened
  have hlen : (xs ++ ys).length = xs.length + ys.length := by simp
  have hk := h A' c' w'
  rw [hlen] at h1 h4
  rw [hlen]
  exact hk h1 (.ofGrown h2 fun b hb => hb) (Newer.ofApp h4)

theorem run_append_two {t t2 ty e e2 : TypeId} {k : IntKind} {bytes : Nat} (he : IntElem P t e k bytes) (h2 : P.underlying t2 = some (.slice e2)) (A : Option Addr) (n c : Nat) (y : Value) :
    (Builtin.append_ #[t, t2] ty #[.slice A n c, y]).run P w = (Builtin.append_ #[t, t] ty #[.slice A n c, y]).run P w := by
  obtain ⟨h1, hinfo, _⟩ := he
  obtain ⟨i, hi, _, _, _⟩ := info_parts hinfo
  simp [Builtin.append_, run_underlying h1, run_underlying h2, sizeOf, typeInfo, hi]

/-- append(v, ys...), ys of another type of slices over the same integers. -/
theorem wpList_append_two {ops : Array Oper} {rest : List Oper} {o : Oper} {a : Act} {Q : Exit → Act → World → Prop} (hgd : o.guard = none) (s x : Operand) (t t2 : TypeId)
    (ho : o.op = .call { callee := .builtin .append, args := #[s, x], argTypes := #[t, t2] }) {e e2 : TypeId} (ht2 : P.underlying t2 = some (.slice e2)) {k : IntKind} {bytes : Nat} (he : IntElem P t e k bytes)
    {B B' : Nat} {v : Value} {xs ys : List Int} (hown : Own w B e k v xs) (hs : a.eval s = v)
    {A : Option Addr} {c : Nat} (hx : a.eval x = .slice A ys.length c) (hr : Holds w B' k A ys) (hsz : xs.length + ys.length ≤ 1099511627776) (hbase : B ≤ w.heap.size)
    (h : ∀ A' c' w', Own w' B e k (.slice A' (xs.length + ys.length) c') (xs ++ ys) → TurnsIn (fun b => v.ownBlock = some b) w w' → Newer w v (.slice A' (xs.length + ys.length) c') → wpList P ops Q rest (a.put o.dst (.slice A' (xs.length + ys.length) c')) w') :
    wpList P ops Q (o :: rest) a w := by
  refine wpList_plain hgd fun K hK => ?_
  obtain ⟨v', w', hrun, h1, h2, h4⟩ := run_append_ints (P := P) w (ty := o.type) he hown c hr hsz hbase
  obtain ⟨A0, c0, rfl, _, _, _⟩ := hown.opened
  rw [← run_append_two w he ht2] at hrun
  unfold Oper.wp
  simp only [execOp, ho, resolve, invoke, builtin, Sem.run_bind, Sem.run_pure, Result.andThen_ok, List.map_toArray, List.map_cons, List.map_nil, hs, hx, hrun]
  obtain ⟨A', c', rfl, _, _, _⟩ := h1.opened
  have hlen : (xs ++ ys).length = xs.length + ys.length := by simp
  have hk := h A' c' w'
  rw [hlen] at h1 h4
  rw [hlen]
  exact hK _ _ (hk h1 (.ofGrown h2 fun b hb => hb) (Newer.ofApp h4))

/-- append(v, z), z alone in the newest block. -/
theorem wpList_append_one_out {ops : Array Oper} {rest : List Oper} {o : Oper} {a : Act} {Q : Exit → Act → World → Prop} (hgd : o.guard = none) (s x : Operand) (t : TypeId)
    (ho : o.op = .call { callee := .builtin .append, args := #[s, x], argTypes := #[t, t] }) {e : TypeId} {k : IntKind} {bytes : Nat} (he : IntElem P t e k bytes)
    {B : Nat} {v : Value} {xs : List Int} (hown : Own w B e k v xs) (hs : a.eval s = v)
    {z : Int} {c : Nat} (hx : a.eval x = .slice (some ⟨w.heap.size, 0, none⟩) 1 c) (hsz : xs.length + 1 ≤ 1099511627776) (hbase : B ≤ w.heap.size)
    (h : ∀ A' c' w', Own w' B e k (.slice A' (xs.length + 1) c') (xs ++ [z]) → TurnsIn (fun b => v.ownBlock = some b) w w' → Newer w v (.slice A' (xs.length + 1) c') → wpList P ops Q rest (a.put o.dst (.slice A' (xs.length + 1) c')) w') :
    wpList P ops Q (o :: rest) a (w.alloc (.cells #[.int k z] e)) := by
  refine wpList_append_out (ys := [z]) (B' := w.heap.size + 1) _ hgd s x t ho he (hown.alloc _) hs hx (Holds.new w k z e) (by simpa using hsz) (by simp; omega) ?_
  intro A' c' w' h1 h2 h3
  refine h A' c' w' h1 (((TurnsIn.refl _ w).alloc _).trans h2) ?_
  rcases h3 with h3 | h3
  · exact .inl h3
  · exact .inr fun g hg => by have := h3 g hg; simp at this; omega
end
end Go.Proofs.Ytlcnbepldkbkgaa.Kit
