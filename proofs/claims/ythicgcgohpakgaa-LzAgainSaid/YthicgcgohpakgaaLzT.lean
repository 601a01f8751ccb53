/-
  Layer 11, lz.Find: a contract. Conditions: as each theorem names.
-/
import Derived.Test.YthicgcgohpakgaaLzS
import Derived.Test.YthicgcgohpakgaaLzA
import Derived.Deep.AppendLies
import Derived.Deep.RegionLaw
import Derived.Deep.RegionWith
namespace Go.Proofs.Ythicgcgohpakgaa.Lz
open Go.ChangeShapes Go.WideShapes Go.ChangeAt Go.RowKit Go.Proofs.Ythicgcgohpakgaa.Kit

def cellsT (t : Tok) : List Value := [.int .u8 t.a, .int .i64 t.l, .int .i64 t.d]
/-- v is a row of tokens of the call's own. -/
def OwnT (w : World) (B : Nat) (v : Value) (ts : List Tok) : Prop := w.ownsRow B 32 3 v ts.length (ts.flatMap cellsT)
theorem flatT_get : ∀ (ts : List Tok) (i j : Nat) (t : Tok) (u : Value), ts[i]? = some t → (cellsT t)[j]? = some u → (ts.flatMap cellsT)[i * 3 + j]? = some u
  | [], i, j, s, u, h, _ => by simp at h
  | a :: ss, 0, j, s, u, h, hu => by
    simp at h
    subst h
    have hj : j < (cellsT a).length := (List.getElem?_eq_some_iff.1 hu).1
    rw [List.flatMap_cons, Nat.zero_mul, Nat.zero_add, List.getElem?_append_left hj]
    exact hu
  | a :: ss, i + 1, j, s, u, h, hu => by
    have ih := flatT_get ss i j s u (by simpa using h) hu
    rw [List.flatMap_cons, List.getElem?_append_right (by simp [cellsT]; omega)]
    have e : (i + 1) * 3 + j - (cellsT a).length = i * 3 + j := by simp [cellsT]; omega
    rw [e]
    exact ih
section
variable {w w' : World} {B : Nat} {v : Value} {ts : List Tok}
theorem OwnT.nil (w : World) (B : Nat) : OwnT w B (.slice none 0 0) [] := World.ownsRow_nil w B _ 3
theorem OwnT.lt (h : OwnT w B v ts) : ∀ g, v.ownBlock = some g → B ≤ g ∧ g < w.heap.size := World.ownsRow.lt h
theorem OwnT.alloc (h : OwnT w B v ts) (o : Obj) : OwnT (w.alloc o) B v ts := World.ownsRow.alloc h o
theorem OwnT.drewN (h : OwnT w B v ts) (n : Nat) : OwnT (w.drewN n) B v ts := h
theorem OwnT.holds {A : Option Addr} {n c : Nat} (h : OwnT w B (.slice A n c) ts) : n = ts.length ∧ n ≤ c ∧ c ≤ maxLen ∧ HoldsT w w.heap.size A ts := by
  rcases h.2 with ⟨he, h0⟩ | ⟨g, cap, cur, he, hb, hg2, hnc, hcm, hcs, htake⟩
  · injection he with e1 e2 e3
    subst e1 e2 e3
    exact ⟨h0.symm, Nat.le_refl _, Nat.zero_le _, fun hx => by omega⟩
  · injection he with e1 e2 e3
    subst e1 e2 e3
    refine ⟨rfl, hnc, hcm, fun hx => ⟨g, 0, rfl, (Array.getElem?_eq_some_iff.1 hg2).1, fun i t hi => ?_⟩⟩
    have hcell : ∀ (j : Nat) (u : Value), (cellsT t)[j]? = some u → w.cell? ⟨g, 0 + i * 3 + j, none⟩ = some u := fun j u hu => by
      have := World.ownsRow.cells h (g := g) rfl (i * 3 + j) u (flatT_get ts i j t u hi hu)
      rw [add_plain] at this
      rw [Nat.zero_add] at this ⊢
      exact this
    exact ⟨by simpa using hcell 0 _ rfl, hcell 1 _ rfl, hcell 2 _ rfl⟩
theorem OwnT.opened (h : OwnT w B v ts) : ∃ (A : Option Addr) (cap : Nat), v = .slice A ts.length cap ∧ ts.length ≤ cap ∧ cap ≤ maxLen ∧ HoldsT w w.heap.size A ts := by
  rcases h.2 with ⟨rfl, h0⟩ | ⟨g, cap, cur, rfl, hb, hg2, hnc, hcm, hcs, htake⟩
  · have := h.holds
    exact ⟨none, 0, by rw [h0], by rw [h0]; exact Nat.le_refl _, this.2.2.1, this.2.2.2⟩
  · have := h.holds
    exact ⟨_, _, rfl, this.2.1, this.2.2.1, this.2.2.2⟩
theorem OwnT.ne_block {g : Nat} {t : TypeId} {cs : Array Value} (h : OwnT w B v ts) (hg : Block w g t cs) (hne : 32 ≠ t) : v.ownBlock ≠ some g := by
  rcases h.2 with ⟨rfl, _⟩ | ⟨g', cap, cur, rfl, _, hh, _⟩
  · simp [Value.ownBlock]
  · intro he
    obtain rfl : g' = g := by simpa [Value.ownBlock] using he
    unfold Block at hg
    rw [hh] at hg
    injection hg with hg
    injection hg with _ ht
    exact hne ht
theorem elemT : Try.prog.underlying 22 = some (.slice 32) ∧ (Try.prog.info? 32).map (fun i => (i.zero, i.size, i.bytes)) = some (some (.agg #[.int .u8 0, .int .i64 0, .int .i64 0]), 3, 24) := by
  constructor <;> kernel_rfl
theorem run_append_tok (h : OwnT w B v ts) (q : Tok) (c : Nat) (hsz : ts.length ≤ 1000000) (hbase : B ≤ w.heap.size) (ty : TypeId) :
    ∃ A' c' w', (Builtin.append_ #[22, 22] ty #[v, .slice (some ⟨w.heap.size, 0, none⟩) 1 c]).run Try.prog (w.alloc (.cells (cellsT q).toArray 32)) = .ok (.slice A' (ts.length + 1) c') w' ∧
      OwnT w' B (.slice A' (ts.length + 1) c') (ts ++ [q]) ∧ TurnsIn (fun b => v.ownBlock = some b) w w' := by
  obtain ⟨ht, hinfo⟩ := elemT
  obtain ⟨i, hi, hz, hs, hby⟩ := info_parts hinfo
  have hnew := Block.new w 32 (cellsT q).toArray
  obtain ⟨g, cap, w', hrun, h2, h3, _, _⟩ := run_append_lies (P := Try.prog) (w.alloc (.cells (cellsT q).toArray 32)) 22 ty B 32 i _ 3 24 ht hi hz hs hby rfl (by omega) v ts.length (ts.flatMap cellsT) (h.alloc _)
    ⟨w.heap.size, 0, none⟩ 1 c (cellsT q) (by simp [cellsT]) (by
      intro j u hu
      exact World.news_of_block hnew j u (by simpa using hu)) (by
      intro u hu
      simp [cellsT] at hu
      rcases hu with rfl | rfl | rfl <;> rfl) (by omega) (by unfold maxLen; omega) (by omega) (by simp; omega) _ rfl
  refine ⟨some ⟨g, 0, none⟩, cap, w', hrun, ?_, ((TurnsIn.refl _ w).alloc _).trans (.ofGrown h3 fun b hb => hb)⟩
  unfold OwnT
  rw [List.length_append, List.flatMap_append]
  simpa using h2
theorem step_append_tok {ops : Array Oper} {o : Oper} {a : Act} {K : Act → World → Prop} {Q : Exit → Act → World → Prop} {E : Prop} (hg : o.guard = none) (s x : Operand)
    (ho : o.op = Op.call { callee := Callee.builtin Builtin.append, args := #[s, x], argTypes := #[22, 22] })
    (q : Tok) (hown : OwnT w B v ts) (hs : a.eval s = v) {c : Nat} (hx : a.eval x = .slice (some ⟨w.heap.size, 0, none⟩) 1 c) (hsz : ts.length ≤ 1000000) (hbase : B ≤ w.heap.size)
    (hK : ∀ A' c' w', OwnT w' B (.slice A' (ts.length + 1) c') (ts ++ [q]) → TurnsIn (fun b => v.ownBlock = some b) w w' → K (a.put o.dst (.slice A' (ts.length + 1) c')) w') :
    if Region.wanted o (yielded ops a.tmps) = true then Oper.wp Try.prog o a (w.alloc (.cells #[.int .u8 q.a, .int .i64 q.l, .int .i64 q.d] 32)) K Q else E := by
  have hw : Region.wanted o (yielded ops a.tmps) = true := by simp [Region.wanted, hg]
  rw [if_pos hw]
  obtain ⟨A', c', w', hrun, h2, h3⟩ := run_append_tok hown q c hsz hbase o.type
  have hrun' : (Builtin.append_ #[22, 22] o.type #[v, .slice (some ⟨w.heap.size, 0, none⟩) 1 c]).run Try.prog (w.alloc (.cells #[.int .u8 q.a, .int .i64 q.l, .int .i64 q.d] 32)) = .ok (.slice A' (ts.length + 1) c') w' := hrun
  unfold Oper.wp
  simp [execOp, ho, resolve, invoke, builtin, hs, hx, hrun', Result.andThen]
  exact hK _ _ _ h2 h3
theorem wpList_append_tok {ops : Array Oper} {rest : List Oper} {o : Oper} {a : Act} {Q : Exit → Act → World → Prop} (hgd : o.guard = none) (s x : Operand)
    (ho : o.op = Op.call { callee := Callee.builtin Builtin.append, args := #[s, x], argTypes := #[22, 22] })
    (q : Tok) (hown : OwnT w B v ts) (hs : a.eval s = v) {c : Nat} (hx : a.eval x = .slice (some ⟨w.heap.size, 0, none⟩) 1 c) (hsz : ts.length ≤ 1000000) (hbase : B ≤ w.heap.size)
    (hK : ∀ A' c' w', OwnT w' B (.slice A' (ts.length + 1) c') (ts ++ [q]) → TurnsIn (fun b => v.ownBlock = some b) w w' → wpList Try.prog ops Q rest (a.put o.dst (.slice A' (ts.length + 1) c')) w') :
    wpList Try.prog ops Q (o :: rest) a (w.alloc (.cells #[.int .u8 q.a, .int .i64 q.l, .int .i64 q.d] 32)) := by
  refine wpList_plain hgd fun K hK2 => ?_
  obtain ⟨A', c', w', hrun, h2, h3⟩ := run_append_tok hown q c hsz hbase o.type
  have hrun' : (Builtin.append_ #[22, 22] o.type #[v, .slice (some ⟨w.heap.size, 0, none⟩) 1 c]).run Try.prog (w.alloc (.cells #[.int .u8 q.a, .int .i64 q.l, .int .i64 q.d] 32)) = .ok (.slice A' (ts.length + 1) c') w' := hrun
  unfold Oper.wp
  simp only [execOp, ho, resolve, invoke, builtin, Sem.run_bind, Sem.run_pure, Result.andThen_ok, List.map_toArray, List.map_cons, List.map_nil, hs, hx, hrun']
  exact hK2 _ _ (hK _ _ _ h2 h3)
end
end Go.Proofs.Ythicgcgohpakgaa.Lz
