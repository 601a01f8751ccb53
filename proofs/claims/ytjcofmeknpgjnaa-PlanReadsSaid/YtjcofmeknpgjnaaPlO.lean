/-
  Layer 16, plan: rows of steps of a call's own. Conditions: as each theorem names.
-/
import Derived.Test.YtjcofmeknpgjnaaPlL2
import Derived.Test.YtjcofmeknpgjnaaPlW
import Derived.Deep.AppendLies
namespace Go.Proofs.Ytjcofmeknpgjnaa.Pl
open Go.ChangeShapes Go.WideShapes Go.ChangeAt Go.RowKit Go.Proofs.Ytjcofmeknpgjnaa.Kit

def sqS (s : Stp) : Sq := ⟨s.a, s.b, s.x, s.zs⟩
def cellsS (s : Stp) : List Value := [.int .u8 s.a, .int .i64 s.b, .int .i64 s.x, .slice s.A s.zs.length s.cap]
def FineS (s : Stp) : Prop := (Lit.int .u8 s.a).wf = true ∧ (Lit.int .i64 s.b).wf = true ∧ (Lit.int .i64 s.x).wf = true ∧ s.zs.length ≤ s.cap ∧ s.cap ≤ maxLen ∧ Octets s.zs

/-- v is a row of steps of the call's own. -/
def OwnSteps (w : World) (B : Nat) (v : Value) (ss : List Stp) : Prop := w.ownsRow B 28 4 v ss.length (ss.flatMap cellsS)

theorem flat_get : ∀ (ss : List Stp) (i j : Nat) (s : Stp) (u : Value), ss[i]? = some s → (cellsS s)[j]? = some u → (ss.flatMap cellsS)[i * 4 + j]? = some u
  | [], i, j, s, u, h, _ => by simp at h
  | a :: ss, 0, j, s, u, h, hu => by
    simp at h
    subst h
    have hj : j < (cellsS a).length := (List.getElem?_eq_some_iff.1 hu).1
    rw [List.flatMap_cons, Nat.zero_mul, Nat.zero_add, List.getElem?_append_left hj]
    exact hu
  | a :: ss, i + 1, j, s, u, h, hu => by
    have ih := flat_get ss i j s u (by simpa using h) hu
    rw [List.flatMap_cons, List.getElem?_append_right (by simp [cellsS]; omega)]
    have e : (i + 1) * 4 + j - (cellsS a).length = i * 4 + j := by simp [cellsS]; omega
    rw [e]
    exact ih

theorem OwnSteps.nil (w : World) (B : Nat) : OwnSteps w B (.slice none 0 0) [] := World.ownsRow_nil w B _ 4
theorem OwnSteps.empty {B : Nat} (w : World) (hB : B ≤ w.heap.size) : OwnSteps (w.alloc (.cells #[] 28)) B (.slice (some ⟨w.heap.size, 0, none⟩) 0 0) [] :=
  World.ownsRow_lit (size := 4) w #[] 0 hB (Nat.zero_le _) rfl

theorem OwnSteps.holds {w : World} {B : Nat} {A : Option Addr} {n c : Nat} {ss : List Stp} (h : OwnSteps w B (.slice A n c) ss) (hg : ∀ s ∈ ss, FineS s ∧ Holds w w.heap.size .u8 s.A s.zs) :
    n = ss.length ∧ n ≤ c ∧ c ≤ maxLen ∧ HoldsS w A ss := by
  rcases h.2 with ⟨he, h0⟩ | ⟨g, cap, cur, he, hb, hg2, hnc, hcm, hcs, htake⟩
  · injection he with e1 e2 e3
    subst e1 e2 e3
    exact ⟨h0.symm, Nat.le_refl _, Nat.zero_le _, fun hx => by omega⟩
  · injection he with e1 e2 e3
    subst e1 e2 e3
    refine ⟨rfl, hnc, hcm, fun hx => ⟨g, 0, rfl, (Array.getElem?_eq_some_iff.1 hg2).1, fun i s hi => ?_⟩⟩
    obtain ⟨⟨f1, f2, f3, f4, f5, f6⟩, hh⟩ := hg s (List.mem_of_getElem? hi)
    refine ⟨cellsS s, ⟨rfl, f1, f2, f3, f4, f5, f6, hh⟩, rfl, fun j u hu => ?_⟩
    have hcell := World.ownsRow.cells h (g := g) rfl (i * 4 + j) u (flat_get ss i j s u hi hu)
    rw [add_plain] at hcell
    rw [Nat.zero_add] at hcell ⊢
    exact hcell

theorem OwnSteps.out {S : Nat → Prop} {w w' : World} {B : Nat} {v : Value} {ss : List Stp} (h : OwnSteps w B v ss) (ho : TurnsIn S w w') (hv : ∀ g, v.ownBlock = some g → ¬ S g) : OwnSteps w' B v ss := by
  rcases h.2 with ⟨rfl, h0⟩ | ⟨g, cap, cur, rfl, hbg, hg, hnc, hcm, hcs, htake⟩
  · exact ⟨h.1, .inl ⟨rfl, h0⟩⟩
  · exact ⟨h.1, .inr ⟨g, cap, cur, rfl, hbg, (ho.block g (Array.getElem?_eq_some_iff.1 hg).1 (hv g rfl)).trans hg, hnc, hcm, hcs, htake⟩⟩

theorem OwnSteps.lt {w : World} {B : Nat} {v : Value} {ss : List Stp} (h : OwnSteps w B v ss) : ∀ g, v.ownBlock = some g → B ≤ g ∧ g < w.heap.size := World.ownsRow.lt h

theorem OwnSteps.ne_block {w : World} {B g : Nat} {t : TypeId} {cs : Array Value} {v : Value} {ss : List Stp} (h : OwnSteps w B v ss) (hg : Block w g t cs) (hne : 28 ≠ t) : v.ownBlock ≠ some g := by
  rcases h.2 with ⟨rfl, _⟩ | ⟨g', cap, cur, rfl, _, hh, _⟩
  · simp [Value.ownBlock]
  · intro he
    obtain rfl : g' = g := by simpa [Value.ownBlock] using he
    unfold Block at hg
    rw [hh] at hg
    injection hg with hg
    injection hg with _ ht
    exact hne ht

/-- A row of integers and a row of steps share no block. -/
theorem OwnSteps.ne_own {w : World} {B B' : Nat} {e : TypeId} {k : IntKind} {u v : Value} {xs : List Int} {ss : List Stp} (h : OwnSteps w B v ss) (ho : Own w B' e k u xs) (hne : 28 ≠ e) : ∀ g, u.ownBlock = some g → v.ownBlock ≠ some g := by
  intro g hu
  rcases ho.2 with ⟨rfl, _⟩ | ⟨g', cap, cur, rfl, _, hh, _⟩
  · simp [Value.ownBlock] at hu
  · obtain rfl : g' = g := by simpa [Value.ownBlock] using hu
    have hB : Block w g' e cur := hh
    exact h.ne_block hB hne

theorem OwnSteps.turned {w w' : World} {B : Nat} {v : Value} {ss : List Stp} (h : OwnSteps w B v ss) (t : TurnsIn (fun b => v.ownBlock = some b) w w') (hB : B ≤ w.heap.size) : Below B w w' :=
  t.toBelow hB fun b hb he => by have := h.lt b he; omega

theorem elemS : Try.prog.underlying 22 = some (.slice 28) ∧ (Try.prog.info? 28).map (fun i => (i.zero, i.size, i.bytes)) = some (some (.agg #[.int .u8 0, .int .i64 0, .int .i64 0, .slice none 0 0]), 4, 48) := by
  constructor <;> kernel_rfl

theorem OwnSteps.alloc {w : World} {B : Nat} {v : Value} {ss : List Stp} (h : OwnSteps w B v ss) (o : Obj) : OwnSteps (w.alloc o) B v ss := World.ownsRow.alloc h o

section
variable {w : World} {B : Nat} {v : Value} {ss : List Stp}

theorem run_append_step (h : OwnSteps w B v ss) (q : Stp) (c : Nat) (hsz : ss.length ≤ 1000000) (hbase : B ≤ w.heap.size) (ty : TypeId) :
    ∃ A' c' w', (Builtin.append_ #[22, 22] ty #[v, .slice (some ⟨w.heap.size, 0, none⟩) 1 c]).run Try.prog (w.alloc (.cells (cellsS q).toArray 28)) = .ok (.slice A' (ss.length + 1) c') w' ∧
      OwnSteps w' B (.slice A' (ss.length + 1) c') (ss ++ [q]) ∧ TurnsIn (fun b => v.ownBlock = some b) w w' := by
  obtain ⟨ht, hinfo⟩ := elemS
  obtain ⟨i, hi, hz, hs, hby⟩ := info_parts hinfo
  have hnew := Block.new w 28 (cellsS q).toArray
  obtain ⟨g, cap, w', hrun, h2, h3, _, _⟩ := run_append_lies (P := Try.prog) (w.alloc (.cells (cellsS q).toArray 28)) 22 ty B 28 i _ 4 48 ht hi hz hs hby rfl (by omega) v ss.length (ss.flatMap cellsS) (h.alloc _)
    ⟨w.heap.size, 0, none⟩ 1 c (cellsS q) (by simp [cellsS]) (by
      intro j u hu
      have := World.news_of_block hnew j u (by simpa using hu)
      exact this) (by
      intro u hu
      simp [cellsS] at hu
      rcases hu with rfl | rfl | rfl | rfl <;> rfl) (by omega) (by unfold maxLen; omega) (by omega) (by simp; omega) _ rfl
  refine ⟨some ⟨g, 0, none⟩, cap, w', hrun, ?_, ((TurnsIn.refl _ w).alloc _).trans (.ofGrown h3 fun b hb => hb)⟩
  unfold OwnSteps
  rw [List.length_append, List.flatMap_append]
  simpa using h2

theorem step_append_step {ops : Array Oper} {o : Oper} {a : Act} {K : Act → World → Prop} {Q : Exit → Act → World → Prop} {E : Prop} (hg : o.guard = none) (s x : Operand)
    (ho : o.op = Op.call { callee := Callee.builtin Builtin.append, args := #[s, x], argTypes := #[22, 22] })
    (q : Stp) (hown : OwnSteps w B v ss) (hs : a.eval s = v) {c : Nat} (hx : a.eval x = .slice (some ⟨w.heap.size, 0, none⟩) 1 c) (hsz : ss.length ≤ 1000000) (hbase : B ≤ w.heap.size)
    (hK : ∀ A' c' w', OwnSteps w' B (.slice A' (ss.length + 1) c') (ss ++ [q]) → TurnsIn (fun b => v.ownBlock = some b) w w' → K (a.put o.dst (.slice A' (ss.length + 1) c')) w') :
    if Region.wanted o (yielded ops a.tmps) = true then Oper.wp Try.prog o a (w.alloc (.cells #[.int .u8 q.a, .int .i64 q.b, .int .i64 q.x, .slice q.A q.zs.length q.cap] 28)) K Q else E := by
  have hw : Region.wanted o (yielded ops a.tmps) = true := by simp [Region.wanted, hg]
  rw [if_pos hw]
  obtain ⟨A', c', w', hrun, h2, h3⟩ := run_append_step hown q c hsz hbase o.type
  have hrun' : (Builtin.append_ #[22, 22] o.type #[v, .slice (some ⟨w.heap.size, 0, none⟩) 1 c]).run Try.prog (w.alloc (.cells #[.int .u8 q.a, .int .i64 q.b, .int .i64 q.x, .slice q.A q.zs.length q.cap] 28)) = .ok (.slice A' (ss.length + 1) c') w' := hrun
  unfold Oper.wp
  simp [execOp, ho, resolve, invoke, builtin, hs, hx, hrun', Result.andThen]
  exact hK _ _ _ h2 h3

theorem wpList_append_step {ops : Array Oper} {rest : List Oper} {o : Oper} {a : Act} {Q : Exit → Act → World → Prop} (hgd : o.guard = none) (s x : Operand)
    (ho : o.op = Op.call { callee := Callee.builtin Builtin.append, args := #[s, x], argTypes := #[22, 22] })
    (q : Stp) (hown : OwnSteps w B v ss) (hs : a.eval s = v) {c : Nat} (hx : a.eval x = .slice (some ⟨w.heap.size, 0, none⟩) 1 c) (hsz : ss.length ≤ 1000000) (hbase : B ≤ w.heap.size)
    (hK : ∀ A' c' w', OwnSteps w' B (.slice A' (ss.length + 1) c') (ss ++ [q]) → TurnsIn (fun b => v.ownBlock = some b) w w' → wpList Try.prog ops Q rest (a.put o.dst (.slice A' (ss.length + 1) c')) w') :
    wpList Try.prog ops Q (o :: rest) a (w.alloc (.cells #[.int .u8 q.a, .int .i64 q.b, .int .i64 q.x, .slice q.A q.zs.length q.cap] 28)) := by
  refine wpList_plain hgd fun K hK2 => ?_
  obtain ⟨A', c', w', hrun, h2, h3⟩ := run_append_step hown q c hsz hbase o.type
  have hrun' : (Builtin.append_ #[22, 22] o.type #[v, .slice (some ⟨w.heap.size, 0, none⟩) 1 c]).run Try.prog (w.alloc (.cells #[.int .u8 q.a, .int .i64 q.b, .int .i64 q.x, .slice q.A q.zs.length q.cap] 28)) = .ok (.slice A' (ss.length + 1) c') w' := hrun
  unfold Oper.wp
  simp only [execOp, ho, resolve, invoke, builtin, Sem.run_bind, Sem.run_pure, Result.andThen_ok, List.map_toArray, List.map_cons, List.map_nil, hs, hx, hrun']
  exact hK2 _ _ (hK _ _ _ h2 h3)
end

/-- What is right and its bytes: as a step may lie in memory. -/
theorem fine_of {q : Sq} (h : rightQ q = true) (A : Option Addr) (c : Nat) (hl : q.zs.length ≤ c) (hm : c ≤ maxLen) (ho : Octets q.zs) : FineS ⟨q.a, q.b, q.x, A, c, q.zs⟩ := by
  have hf := of_decide_eq_true (h : decide _ = true)
  refine ⟨?_, ?_, ?_, hl, hm, ho⟩ <;> simp [Lit.wf, IntKind.min, IntKind.max, IntKind.signed, IntKind.bits] <;> omega
end Go.Proofs.Ytjcofmeknpgjnaa.Pl
