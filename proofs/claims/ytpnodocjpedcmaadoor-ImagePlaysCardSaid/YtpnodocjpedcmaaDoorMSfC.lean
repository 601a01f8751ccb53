/-
  Layer 6, the document's device: New, fall, Down: contracts. Conditions: as each theorem names.
-/
import Derived.Test.YtpnodocjpedcmaaDoorMSfB
import Derived.Test.YtpnodocjpedcmaaDoorMGIays2
import Derived.Test.YtpnodocjpedcmaaDoorMArr
namespace Go.Proofs.YtpnodocjpedcmaaDoor.Sec
open Go.ChangeShapes Go.WideShapes Go.ChangeAt Go.RowKit Go.Proofs.YtpnodocjpedcmaaDoor.Kit

def dCells (Ak : Option Addr) (ck : Nat) (Aw : Option Addr) (cw : Nat) (s : Dv) : Array Value :=
  #[.int .i64 s.size, .int .i64 s.count, .slice Ak s.kept.length ck, .slice Aw s.waits.length cw, .bool s.off, .int .i64 s.offs, .int .i64 s.fuse, .int .u64 s.wr]
/-- v is the document's device. -/
def RDv (w : World) (v : Value) (s : Dv) : Prop :=
  ∃ Ak ck Aw cw, v = .agg (dCells Ak ck Aw cw s) ∧ HoldsF w w.heap.size Ak s.kept ∧ HoldsF w w.heap.size Aw s.waits ∧ s.kept.length ≤ ck ∧ ck ≤ maxLen ∧ s.waits.length ≤ cw ∧ cw ≤ maxLen
theorem RDv.below {w w' : World} {v : Value} {s : Dv} (h : RDv w v s) (hb : Below w.heap.size w w') : RDv w' v s := by
  obtain ⟨Ak, ck, Aw, cw, e, h1, h2, r⟩ := h
  exact ⟨Ak, ck, Aw, cw, e, (h1.below hb).more hb.size, (h2.below hb).more hb.size, r⟩
def GivesD (s : Dv) (w : World) (e : Ending) (w' : World) : Prop := ∃ v, e = .returned v ∧ RDv w' v s ∧ Below w.heap.size w w'
def GivesED (E : Int) (s : Dv) (w : World) (e : Ending) (w' : World) : Prop := ∃ v, e = .returned (.tuple #[.int .i64 E, v]) ∧ RDv w' v s ∧ Below w.heap.size w w'

/-- A whole block is stored over. -/
theorem wpList_store_blk {P : Program} {w : World} {ops : Array Oper} {rest : List Oper} {o : Oper} {a : Act} {Q : Exit → Act → World → Prop} (hgd : o.guard = none) (ty : TypeId) (x y : Operand) (ho : o.op = .store ty x y)
    {g : Nat} {t : TypeId} {cs : Array Value} {ds : List Value} (h : Block w g t cs) (hx : a.eval x = .pointer (some ⟨g, 0, none⟩)) (hy : a.eval y = .agg ds.toArray) (hl : ds.length = cs.size) (hi : (P.info? ty).map (·.size) = some ds.length) (hone : ∀ u ∈ ds, u.oneCell' = true)
    (hK : ∀ w', Block w' g t ds.toArray → w.grownBy w' (some g) → wpList P ops Q rest (a.put o.dst undef) w') : wpList P ops Q (o :: rest) a w := by
  refine wpList_store_mid hgd ty x y ho g 0 ds.toArray hx hy ?_ (by simpa using hi) (all_oneCell_toArray hone) ?_
  · intro j hj
    have hj' : j < cs.size := by simpa [hl] using hj
    exact ⟨by rw [Nat.zero_add, h.cell, Array.getElem?_eq_getElem hj']; rfl, by rw [Nat.zero_add]; exact h.frozen j⟩
  · refine hK _ ?_ (setCells_grown g _ 0 w)
    have := setCells_block ds 0 w _ h (by omega)
    have e : (cs.toList.take 0 ++ (ds ++ cs.toList.drop (0 + ds.length))).toArray = ds.toArray := by
      rw [List.drop_of_length_le (by simp [hl])]
      simp
    rw [e] at this
    simpa using this

def zD : Array Value := #[.int .i64 0, .int .i64 0, .slice none 0 0, .slice none 0 0, .bool false, .int .i64 0, .int .i64 0, .int .u64 0]
theorem dCells_one (Ak : Option Addr) (ck : Nat) (Aw : Option Addr) (cw : Nat) (s : Dv) : ∀ u ∈ (dCells Ak ck Aw cw s).toList, u.oneCell' = true := by
  intro u hu
  unfold dCells at hu
  simp only [List.mem_cons, List.not_mem_nil, or_false] at hu
  rcases hu with rfl | rfl | rfl | rfl | rfl | rfl | rfl | rfl <;> rfl
/-- No cell is a text. -/
def NoText (cs : Array Value) : Prop := ∀ (i : Nat) (x : ByteArray), cs[i]? ≠ some (.string x)
theorem noText_list {cs : Array Value} (h : ∀ u ∈ cs.toList, ∀ x : ByteArray, u ≠ .string x) : NoText cs := fun i x e => h _ (List.mem_of_getElem? (by rw [← Array.getElem?_toList] at e; exact e)) x rfl
theorem dCells_noText (Ak : Option Addr) (ck : Nat) (Aw : Option Addr) (cw : Nat) (s : Dv) : NoText (dCells Ak ck Aw cw s) := noText_list (by
  intro u hu x
  unfold dCells at hu
  simp only [List.mem_cons, List.not_mem_nil, or_false] at hu
  rcases hu with rfl | rfl | rfl | rfl | rfl | rfl | rfl | rfl <;> exact fun e => by cases e)
theorem zD_noText : NoText zD := noText_list (by
  intro u hu x
  unfold zD at hu
  simp only [List.mem_cons, List.not_mem_nil, or_false] at hu
  rcases hu with rfl | rfl | rfl | rfl | rfl | rfl | rfl | rfl <;> exact fun e => by cases e)
/-- Rows of sectors stay while a block without texts turns. -/
theorem HoldsF.kept {w w' : World} {A : Option Addr} {l : Sl} {g : Nat} {t : TypeId} {cs : Array Value} (h : HoldsF w w.heap.size A l) (X : Block w g t cs) (hcs : NoText cs) (hg : w.grownBy w' (some g)) : HoldsF w' w'.heap.size A l := by
  intro hx
  obtain ⟨b, off, e, hb, hc⟩ := h hx
  have hne : b ≠ g := by
    rintro rfl
    have h1 := hc 0 (l[0]'hx) (List.getElem?_eq_getElem hx) 1 _ rfl
    rw [X.cell] at h1
    exact hcs _ _ h1
  refine ⟨b, off, e, Nat.lt_of_lt_of_le hb hg.size, fun j p hj i u hu => ?_⟩
  exact (World.cell?_of_block (w := w) (a := ⟨b, _, none⟩) (hg.block b hb (fun e => hne (Option.some.inj e)))).trans (hc j p hj i u hu)
theorem RDv.kept {w w' : World} {v : Value} {s : Dv} {g : Nat} {t : TypeId} {cs : Array Value} (h : RDv w v s) (X : Block w g t cs) (hcs : NoText cs) (hg : w.grownBy w' (some g)) : RDv w' v s := by
  obtain ⟨Ak, ck, Aw, cw, e, h1, h2, r⟩ := h
  exact ⟨Ak, ck, Aw, cw, e, h1.kept X hcs hg, h2.kept X hcs hg, r⟩
theorem block_two (w : World) (o : Obj) (t : TypeId) (cs : Array Value) : Block ((w.alloc o).alloc (.cells cs t)) (w.heap.size + 1) t cs := by
  have := Block.new (w.alloc o) t cs
  rwa [show (w.alloc o).heap.size = w.heap.size + 1 by simp] at this
theorem below_two (w : World) (o p : Obj) : Below w.heap.size w ((w.alloc o).alloc p) := ((Below.refl _ _).alloc (Nat.le_refl _) _).alloc (by simp) _

set_option maxRecDepth 100000 in
set_option maxHeartbeats 1600000 in
theorem rnew_any (size count : Nat) (w : World) :
    Calls Tryd.prog 11 #[.int .i64 size, .int .i64 count] w (GivesD (Dv.new size count) w) := by
  go_enter Tryd.func11, Tryd.ntmps11
  go_wp2
  exact bodyPost_ret (v := .agg (dCells none 0 none 0 (Dv.new size count))) (results_cell_row rfl _ _ w.heap.size 31 _ (0, 0) _ rfl (Block.new w _ _) Tryd.underlying31 rfl (by kernel_rfl)) rfl
    ⟨_, rfl, ⟨none, 0, none, 0, rfl, HoldsF.nil, HoldsF.nil, Nat.le_refl _, Nat.zero_le _, Nat.le_refl _, Nat.zero_le _⟩, (Below.refl _ _).alloc (Nat.le_refl _) _⟩

set_option maxRecDepth 100000 in
set_option maxHeartbeats 1600000 in
theorem rfall_any (v : Value) (s : Dv) (w : World) (h : RDv w v s) (hb : 0 ≤ s.offs ∧ s.offs ≤ 1000000000) :
    Calls Tryd.prog 45 #[v] w (GivesD s.down w) := by
  obtain ⟨Ak, ck, Aw, cw, rfl, hk, hw, r⟩ := h
  have hB := fun o p => below_two w o p
  have HG := Lib.hid (fun (cs : Array Value) (o p : Obj) => (⟨(hk.below (hB o p)).more (hB o p).size, (hw.below (hB o p)).more (hB o p).size⟩ : _ ∧ _))
  have HR := Lib.hid r
  clear hB hk hw r
  unfold dCells Dv.down
  cases hoff : s.off with
  | true =>
    go_enter Tryd.func45, Tryd.ntmps45
    go_wp2
    refine bodyPost_ret (v := .agg (dCells Ak ck Aw cw { s with off := true })) (results_cell_row rfl _ _ (w.heap.size + 1) 31 _ (0, 0) _ rfl (block_two w _ _ _) Tryd.underlying31 rfl (by kernel_rfl)) rfl
      ⟨_, rfl, ⟨Ak, ck, Aw, cw, ?_, (HG.out #[] _ _).1, (HG.out #[] _ _).2, HR.out⟩, below_two w _ _⟩
    unfold dCells
    rw [hoff]
  | false =>
    go_enter Tryd.func45, Tryd.ntmps45
    go_wp2
    exact bodyPost_ret (v := .agg (dCells Ak ck Aw cw { s with off := true, offs := s.offs + 1 })) (results_cell_row rfl _ _ (w.heap.size + 1) 31 _ (0, 0) _ rfl (block_two w _ _ _) Tryd.underlying31 rfl (by kernel_rfl)) rfl
      ⟨_, rfl, ⟨Ak, ck, Aw, cw, rfl, (HG.out #[] _ _).1, (HG.out #[] _ _).2, HR.out⟩, below_two w _ _⟩

end Go.Proofs.YtpnodocjpedcmaaDoor.Sec
