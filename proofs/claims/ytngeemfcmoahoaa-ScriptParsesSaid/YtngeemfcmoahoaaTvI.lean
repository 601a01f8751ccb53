/-
  Layer 30, rows of acts of a call's own, what the lines told by now, and what is deferred by a line: contracts. Conditions: as each theorem names.
-/
import Derived.Test.YtngeemfcmoahoaaTvH
import Derived.Deep.AppendLies
import Derived.Deep.RegionLaw
import Derived.Deep.RegionWith
import Derived.Defers
import Derived.Recover
import Derived.Laws.Pointers
import Derived.RegionTactic
import Derived.Outline
namespace Go.Proofs.Ytngeemfcmoahoaa.Tv
open Go.ChangeShapes Go.WideShapes Go.ChangeAt Go.RowKit Go.Proofs.Ytngeemfcmoahoaa.Kit Go.Proofs.Ytngeemfcmoahoaa.Tx Go.Proofs.Ytngeemfcmoahoaa.Ty Go.Proofs.Ytngeemfcmoahoaa.Tz

def cellsE (x : ActV × Value) : List Value := [.int .u8 x.1.k, .int .u8 x.1.m, .int .i64 x.1.p, .int .i64 x.1.n, .int .u64 x.1.v, x.2]
/-- v is a row of acts of the call's own. -/
def OwnE (w : World) (B : Nat) (v : Value) (es : List (ActV × Value)) : Prop := w.ownsRow B 40 6 v es.length (es.flatMap cellsE)
theorem flatE_get : ∀ (es : List (ActV × Value)) (i j : Nat) (x : ActV × Value) (u : Value), es[i]? = some x → (cellsE x)[j]? = some u → (es.flatMap cellsE)[i * 6 + j]? = some u
  | [], i, j, s, u, h, _ => by simp at h
  | a :: ss, 0, j, s, u, h, hu => by
    simp at h
    subst h
    have hj : j < (cellsE a).length := (List.getElem?_eq_some_iff.1 hu).1
    rw [List.flatMap_cons, Nat.zero_mul, Nat.zero_add, List.getElem?_append_left hj]
    exact hu
  | a :: ss, i + 1, j, s, u, h, hu => by
    have ih := flatE_get ss i j s u (by simpa using h) hu
    rw [List.flatMap_cons, List.getElem?_append_right (by simp [cellsE]; omega)]
    have e : (i + 1) * 6 + j - (cellsE a).length = i * 6 + j := by simp [cellsE]; omega
    rw [e]
    exact ih
section
variable {w w' : World} {B : Nat} {v : Value} {es : List (ActV × Value)}
theorem OwnE.nil (w : World) (B : Nat) : OwnE w B (.slice none 0 0) [] := World.ownsRow_nil w B _ 6
theorem OwnE.lt (h : OwnE w B v es) : ∀ g, v.ownBlock = some g → B ≤ g ∧ g < w.heap.size := World.ownsRow.lt h
theorem OwnE.alloc (h : OwnE w B v es) (o : Obj) : OwnE (w.alloc o) B v es := World.ownsRow.alloc h o
theorem OwnE.opened (h : OwnE w B v es) : ∃ (A : Option Addr) (cap : Nat), v = .slice A es.length cap ∧ es.length ≤ cap ∧ cap ≤ maxLen := by
  rcases h.2 with ⟨rfl, h0⟩ | ⟨g, cap, cur, rfl, hb, hg2, hnc, hcm, hcs, htake⟩
  · exact ⟨none, 0, by rw [h0], by omega, Nat.zero_le _⟩
  · exact ⟨_, cap, rfl, hnc, hcm⟩
theorem OwnE.cellAt (h : OwnE w B v es) {i : Nat} (hi : i < es.length) : ∃ g, v = .slice (some ⟨g, 0, none⟩) es.length (match v with | .slice _ _ c => c | _ => 0) ∧ g < w.heap.size ∧ ∀ j u, (cellsE es[i])[j]? = some u → w.cell? ⟨g, i * 6 + j, none⟩ = some u := by
  rcases h.2 with ⟨rfl, h0⟩ | ⟨g, cap, cur, rfl, hb, hg2, hnc, hcm, hcs, htake⟩
  · omega
  · refine ⟨g, rfl, (Array.getElem?_eq_some_iff.1 hg2).1, fun j u hu => ?_⟩
    have := World.ownsRow.cells h (g := g) rfl (i * 6 + j) u (flatE_get es i j _ u (List.getElem?_eq_getElem hi) hu)
    rw [add_plain] at this
    rw [Nat.zero_add] at this
    exact this
theorem OwnE.out {S : Nat → Prop} (h : OwnE w B v es) (ho : TurnsIn S w w') (hv : ∀ g, v.ownBlock = some g → ¬ S g) : OwnE w' B v es := by
  rcases h.2 with ⟨rfl, h0⟩ | ⟨g, cap, cur, rfl, hbg, hg, hnc, hcm, hcs, htake⟩
  · exact ⟨h.1, .inl ⟨rfl, h0⟩⟩
  · exact ⟨h.1, .inr ⟨g, cap, cur, rfl, hbg, (ho.block g (Array.getElem?_eq_some_iff.1 hg).1 (hv g rfl)).trans hg, hnc, hcm, hcs, htake⟩⟩
theorem OwnE.block (h : OwnE w B v es) {g : Nat} (hv : v.ownBlock = some g) : ∃ cs, Block w g 40 cs := by
  rcases h.2 with ⟨rfl, _⟩ | ⟨g', cap, cur, rfl, _, hh, _⟩
  · simp [Value.ownBlock] at hv
  · obtain rfl : g' = g := by simpa [Value.ownBlock] using hv
    exact ⟨cur, hh⟩
theorem OwnE.ne_block {g : Nat} {t : TypeId} {cs : Array Value} (h : OwnE w B v es) (hg : Block w g t cs) (hne : 40 ≠ t) : v.ownBlock ≠ some g := by
  intro he
  obtain ⟨cs', hb⟩ := h.block he
  exact hne (block_type hb hg)
theorem elemE : Try.prog.underlying 31 = some (.slice 40) ∧ (Try.prog.info? 40).map (fun i => (i.zero, i.size, i.bytes)) = some (some (.agg #[.int .u8 0, .int .u8 0, .int .i64 0, .int .i64 0, .int .u64 0, .slice none 0 0]), 6, 56) := by
  constructor <;> kernel_rfl
theorem run_append_act (h : OwnE w B v es) (q : ActV) (A : Option Addr) (n m c : Nat) (hsz : es.length ≤ 1000000) (hbase : B ≤ w.heap.size) (ty : TypeId) :
    ∃ A' c' w', (Builtin.append_ #[31, 31] ty #[v, .slice (some ⟨w.heap.size, 0, none⟩) 1 c]).run Try.prog (w.alloc (.cells (cellsE (q, .slice A n m)).toArray 40)) = .ok (.slice A' (es.length + 1) c') w' ∧
      OwnE w' B (.slice A' (es.length + 1) c') (es ++ [(q, .slice A n m)]) ∧ TurnsIn (fun b => v.ownBlock = some b) w w' ∧ Newer w v (.slice A' (es.length + 1) c') := by
  obtain ⟨ht, hinfo⟩ := elemE
  obtain ⟨i, hi, hz, hs, hby⟩ := info_parts hinfo
  have hnew := Block.new w 40 (cellsE (q, .slice A n m)).toArray
  obtain ⟨g, cap, w', hrun, h2, h3, h4, h5⟩ := run_append_lies (P := Try.prog) (w.alloc (.cells (cellsE (q, .slice A n m)).toArray 40)) 31 ty B 40 i _ 6 56 ht hi hz hs hby rfl (by omega) v es.length (es.flatMap cellsE) (h.alloc _)
    ⟨w.heap.size, 0, none⟩ 1 c (cellsE (q, .slice A n m)) (by simp [cellsE]) (by
      intro j u hu
      exact World.news_of_block hnew j u (by simpa using hu)) (by
      intro u hu
      simp [cellsE] at hu
      rcases hu with rfl | rfl | rfl | rfl | rfl | rfl <;> rfl) (by omega) (by unfold maxLen; omega) (by omega) (by simp; omega) _ rfl
  refine ⟨some ⟨g, 0, none⟩, cap, w', hrun, ?_, ((TurnsIn.refl _ w).alloc _).trans (.ofGrown h3 fun b hb => hb), ?_⟩
  · unfold OwnE
    rw [List.length_append, List.flatMap_append]
    simpa using h2
  · rcases h4 with h4 | h4
    · exact .inl h4.symm
    · refine .inr fun x hx => ?_
      obtain rfl : g = x := by simpa [Value.ownBlock] using hx
      rw [h4]
      simp
end
/-- What the lines told by now, in memory. -/
structure PAt (w : World) (B g : Nat) (p : PS) (vs vi va : Value) (es : List (ActV × Value)) : Prop where
  blk : Block w g 56 (cellsP p.b p.c0 p.c1 p.c2 vs vi p.v va)
  os : Own w B 5 .u8 vs p.sd
  oi : Own w B 5 .u8 vi p.im
  oa : OwnE w B va es
  al : es.map Prod.fst = p.al
  ds : ∀ x ∈ es, Own w B 5 .u8 x.2 x.1.d
theorem PAt.out {S : Nat → Prop} {w w' : World} {B g : Nat} {p : PS} {vs vi va : Value} {es : List (ActV × Value)} (h : PAt w B g p vs vi va es) (t : TurnsIn S w w') (hg : ¬ S g) (ha : ∀ x, va.ownBlock = some x → ¬ S x) (hu : ∀ x cs, Block w x 5 cs → ¬ S x) : PAt w' B g p vs vi va es :=
  ⟨h.blk.out t hg, h.os.out t (fun x hx hs => by obtain ⟨cs, hc⟩ := own_block h.os hx; exact hu x cs hc hs), h.oi.out t (fun x hx hs => by obtain ⟨cs, hc⟩ := own_block h.oi hx; exact hu x cs hc hs), h.oa.out t ha, h.al, fun x hx => (h.ds x hx).out t (fun y hy hs => by obtain ⟨cs, hc⟩ := own_block (h.ds x hx) hy; exact hu y cs hc hs)⟩

set_option maxHeartbeats 6400000 in
/-- Nothing was thrown: nothing is done. -/
theorem catchL_idle (q : Addr) (w : World) :
    CallsD Try.prog 29 #[.pointer (some q)] .returning w fun e u' w' => e = .returned (.tuple #[]) ∧ u' = .returning ∧ w' = w := by
  refine callsD_of_wpS Try.func29 rfl fun c₀ cs hu => ?_
  apply wpS_seq
  apply wpS_region
  simp [wpOpsS, go_sem, recoverD, hu, Try.ntmps29, Exit.thenS]
  refine wpS_of_wp ?_
  go_wp2
  cases c₀
  simp_all [bodyPostS, results, Try.results29]
def CaughtL (qb : Nat) (why : Int) (u : FrameMode) (w : World) (e : Ending) (u' : FrameMode) (w' : World) : Prop :=
  e = .returned (.tuple #[]) ∧ u' = u ∧ Block w' qb 32 #[.int .i64 why] ∧ TurnsIn (fun b => b = qb) w w'

set_option maxHeartbeats 6400000 in
theorem catchL_noEnd (qb : Nat) (e0 : Value) (older : List PanicEntry) (w : World) (hq : Block w qb 32 #[e0]) :
    CallsD Try.prog 29 #[.pointer (some ⟨qb, 0, none⟩)] (.panicking ({ v := .iface 70 (.agg #[]), recovered := false } :: older)) w
      (CaughtL qb 22 (.panicking ({ v := .iface 70 (.agg #[]), recovered := true } :: older)) w) := by
  refine callsD_of_wpS Try.func29 rfl fun c₀ cs hu => ?_
  apply wpS_seq
  apply wpS_region
  simp [wpOpsS, go_sem, recoverD, hu, Try.ntmps29, Exit.thenS]
  refine wpS_of_wp ?_
  rw [show (#[Value.pointer (some ⟨qb, 0, none⟩)] ++ (Array.replicate 17 undef).setIfInBounds 5 (Value.iface 70 (Value.agg #[])) : Array Value) = #[Value.pointer (some ⟨qb, 0, none⟩), undef, undef, undef, undef, undef, Value.iface 70 (Value.agg #[]), undef, undef, undef, undef, undef, undef, undef, undef, undef, undef, undef] from rfl]
  have heq : ∀ W : World, (binOp .eql 20 (.iface 70 (.agg #[])) .nilIface).run Try.prog W = .ok (.bool false) W := fun W => by kernel_rfl
  have hqA := hq.alloc (.cells #[] 70)
  have ht0 : ∀ W : World, (Instr.typeAssert (.iface 70 (.agg #[])) 20 70 true).run Try.prog W = .ok (.tuple #[.agg #[], .bool true]) W := fun W => by kernel_rfl
  have s2 := (hqA.cell 0).trans (show _ = some e0 from rfl)
  have z1 := hqA.frozen 0
  have r2 := (hq.cell 0).trans (show _ = some e0 from rfl)
  have y1 := hq.frozen 0
  go_wp2
  have g2 := hqA.set_ 0 (.int .i64 22)
  have t2 := ((TurnsIn.refl (fun b => b = qb) w).alloc (.cells #[] 70)).setCell (p := ⟨qb, 0, none⟩) (.inl rfl) (.int .i64 22)
  exact ⟨rfl, _, rfl, _, results_none rfl _ _ _, rfl, rfl, g2, t2⟩

set_option maxHeartbeats 6400000 in
theorem catchL_noKind (qb : Nat) (e0 : Value) (older : List PanicEntry) (w : World) (hq : Block w qb 32 #[e0]) :
    CallsD Try.prog 29 #[.pointer (some ⟨qb, 0, none⟩)] (.panicking ({ v := .iface 71 (.agg #[]), recovered := false } :: older)) w
      (CaughtL qb 21 (.panicking ({ v := .iface 71 (.agg #[]), recovered := true } :: older)) w) := by
  refine callsD_of_wpS Try.func29 rfl fun c₀ cs hu => ?_
  apply wpS_seq
  apply wpS_region
  simp [wpOpsS, go_sem, recoverD, hu, Try.ntmps29, Exit.thenS]
  refine wpS_of_wp ?_
  rw [show (#[Value.pointer (some ⟨qb, 0, none⟩)] ++ (Array.replicate 17 undef).setIfInBounds 5 (Value.iface 71 (Value.agg #[])) : Array Value) = #[Value.pointer (some ⟨qb, 0, none⟩), undef, undef, undef, undef, undef, Value.iface 71 (Value.agg #[]), undef, undef, undef, undef, undef, undef, undef, undef, undef, undef, undef] from rfl]
  have heq : ∀ W : World, (binOp .eql 20 (.iface 71 (.agg #[])) .nilIface).run Try.prog W = .ok (.bool false) W := fun W => by kernel_rfl
  have hqA := hq.alloc (.cells #[] 71)
  have ht0 : ∀ W : World, (Instr.typeAssert (.iface 71 (.agg #[])) 20 70 true).run Try.prog W = .ok (.tuple #[.agg #[], .bool false]) W := fun W => by kernel_rfl
  have ht1 : ∀ W : World, (Instr.typeAssert (.iface 71 (.agg #[])) 20 71 true).run Try.prog W = .ok (.tuple #[.agg #[], .bool true]) W := fun W => by kernel_rfl
  have s2 := (hqA.cell 0).trans (show _ = some e0 from rfl)
  have z1 := hqA.frozen 0
  have r2 := (hq.cell 0).trans (show _ = some e0 from rfl)
  have y1 := hq.frozen 0
  go_wp2
  have g2 := hqA.set_ 0 (.int .i64 21)
  have t2 := ((TurnsIn.refl (fun b => b = qb) w).alloc (.cells #[] 71)).setCell (p := ⟨qb, 0, none⟩) (.inl rfl) (.int .i64 21)
  exact ⟨rfl, _, rfl, _, results_none rfl _ _ _, rfl, rfl, g2, t2⟩

set_option maxHeartbeats 6400000 in
theorem catchL_noForm (qb : Nat) (e0 : Value) (older : List PanicEntry) (w : World) (hq : Block w qb 32 #[e0]) :
    CallsD Try.prog 29 #[.pointer (some ⟨qb, 0, none⟩)] (.panicking ({ v := .iface 72 (.agg #[]), recovered := false } :: older)) w
      (CaughtL qb 3 (.panicking ({ v := .iface 72 (.agg #[]), recovered := true } :: older)) w) := by
  refine callsD_of_wpS Try.func29 rfl fun c₀ cs hu => ?_
  apply wpS_seq
  apply wpS_region
  simp [wpOpsS, go_sem, recoverD, hu, Try.ntmps29, Exit.thenS]
  refine wpS_of_wp ?_
  rw [show (#[Value.pointer (some ⟨qb, 0, none⟩)] ++ (Array.replicate 17 undef).setIfInBounds 5 (Value.iface 72 (Value.agg #[])) : Array Value) = #[Value.pointer (some ⟨qb, 0, none⟩), undef, undef, undef, undef, undef, Value.iface 72 (Value.agg #[]), undef, undef, undef, undef, undef, undef, undef, undef, undef, undef, undef] from rfl]
  have heq : ∀ W : World, (binOp .eql 20 (.iface 72 (.agg #[])) .nilIface).run Try.prog W = .ok (.bool false) W := fun W => by kernel_rfl
  have hqA := hq.alloc (.cells #[] 72)
  have ht0 : ∀ W : World, (Instr.typeAssert (.iface 72 (.agg #[])) 20 70 true).run Try.prog W = .ok (.tuple #[.agg #[], .bool false]) W := fun W => by kernel_rfl
  have ht1 : ∀ W : World, (Instr.typeAssert (.iface 72 (.agg #[])) 20 71 true).run Try.prog W = .ok (.tuple #[.agg #[], .bool false]) W := fun W => by kernel_rfl
  have ht2 : ∀ W : World, (Instr.typeAssert (.iface 72 (.agg #[])) 20 72 true).run Try.prog W = .ok (.tuple #[.agg #[], .bool true]) W := fun W => by kernel_rfl
  have s2 := (hqA.cell 0).trans (show _ = some e0 from rfl)
  have z1 := hqA.frozen 0
  have r2 := (hq.cell 0).trans (show _ = some e0 from rfl)
  have y1 := hq.frozen 0
  go_wp2
  have g2 := hqA.set_ 0 (.int .i64 3)
  have t2 := ((TurnsIn.refl (fun b => b = qb) w).alloc (.cells #[] 72)).setCell (p := ⟨qb, 0, none⟩) (.inl rfl) (.int .i64 3)
  exact ⟨rfl, _, rfl, _, results_none rfl _ _ _, rfl, rfl, g2, t2⟩
end Go.Proofs.Ytngeemfcmoahoaa.Tv
