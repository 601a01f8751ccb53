/-
  Layer 21, merkle: rows of sums of a call's own; sums of one type as sums of another: contracts. Conditions: as each theorem names.
-/
import Derived.Test.YtdfgdchmeikigaaDoorMkF
import Derived.Test.YtdfgdchmeikigaaDoorOut
import Derived.Deep.AppendLies
namespace Go.Proofs.YtdfgdchmeikigaaDoor.Mk
open Go.ChangeShapes Go.WideShapes Go.ChangeAt Go.RowKit Go.Proofs.YtdfgdchmeikigaaDoor.Kit Go.Proofs.YtdfgdchmeikigaaDoor.Sha

def dcells (d : List Int) : List Value := d.map (Value.int .u8)
/-- t is the type of slices over sums of type e. -/
def DigElem (P : Program) (t e : TypeId) : Prop := P.underlying t = some (.slice e) ∧ (P.info? e).map (fun i => (i.zero, i.size, i.bytes)) = some (some (.agg (dcells (List.replicate 32 0)).toArray), 32, 32)
theorem elemD : DigElem Tryd.prog 49 26 := by constructor <;> kernel_rfl
theorem elemR : DigElem Tryd.prog 45 24 := by constructor <;> kernel_rfl

/-- v is a row of sums of the call's own. -/
def OwnD (w : World) (B : Nat) (e : TypeId) (v : Value) (l : List (List Int)) : Prop := w.ownsRow B e 32 v l.length (l.flatMap dcells) ∧ ∀ d ∈ l, D32 d

theorem flatD : ∀ (l : List (List Int)) (i j : Nat) (d : List Int) (u : Value), (∀ d ∈ l, D32 d) → l[i]? = some d → (dcells d)[j]? = some u → (l.flatMap dcells)[i * 32 + j]? = some u
  | [], i, j, d, u, _, h, _ => by simp at h
  | a :: l, 0, j, d, u, _, h, hu => by
    simp at h
    subst h
    have hj : j < (dcells a).length := (List.getElem?_eq_some_iff.1 hu).1
    rw [List.flatMap_cons, Nat.zero_mul, Nat.zero_add, List.getElem?_append_left hj]
    exact hu
  | a :: l, i + 1, j, d, u, hall, h, hu => by
    have ih := flatD l i j d u (fun x hx => hall x (by simp [hx])) (by simpa using h) hu
    have ha : (dcells a).length = 32 := by unfold dcells; rw [List.length_map]; exact (hall a (by simp)).1
    rw [List.flatMap_cons, List.getElem?_append_right (by omega)]
    have e : (i + 1) * 32 + j - (dcells a).length = i * 32 + j := by omega
    rw [e]
    exact ih

section
variable {w w' : World} {B : Nat} {e t : TypeId} {v : Value} {l : List (List Int)} {P : Program}
theorem OwnD.nil (w : World) (B : Nat) (e : TypeId) : OwnD w B e (.slice none 0 0) [] := ⟨World.ownsRow_nil w B _ 32, fun _ h => absurd h (by simp)⟩
theorem OwnD.empty (w : World) (e : TypeId) (hB : B ≤ w.heap.size) : OwnD (w.alloc (.cells #[] e)) B e (.slice (some ⟨w.heap.size, 0, none⟩) 0 0) [] :=
  ⟨World.ownsRow_lit (size := 32) w #[] 0 hB (Nat.zero_le _) rfl, fun _ h => absurd h (by simp)⟩
theorem OwnD.opened (h : OwnD w B e v l) : ∃ (A : Option Addr) (c : Nat), v = .slice A l.length c ∧ l.length ≤ c ∧ c ≤ maxLen ∧ HoldsD w w.heap.size A l := by
  rcases h.1.2 with ⟨rfl, h0⟩ | ⟨g, cap, cur, rfl, hb, hg2, hnc, hcm, hcs, htake⟩
  · refine ⟨none, 0, by rw [h0], by omega, Nat.zero_le _, fun hx => by omega⟩
  · refine ⟨some ⟨g, 0, none⟩, cap, rfl, hnc, hcm, fun hx => ⟨g, 0, rfl, (Array.getElem?_eq_some_iff.1 hg2).1, fun i d hi => ?_⟩⟩
    have hd := h.2 d (List.mem_of_getElem? hi)
    refine ⟨dcells d, ⟨rfl, hd⟩, by unfold dcells; rw [List.length_map]; exact hd.1, fun j u hu => ?_⟩
    have hcell := World.ownsRow.cells h.1 (g := g) rfl (i * 32 + j) u (flatD l i j d u h.2 hi hu)
    rw [add_plain] at hcell
    rw [Nat.zero_add] at hcell ⊢
    exact hcell
theorem OwnD.out {S : Nat → Prop} (h : OwnD w B e v l) (ho : TurnsIn S w w') (hv : ∀ g, v.ownBlock = some g → ¬ S g) : OwnD w' B e v l := by
  refine ⟨?_, h.2⟩
  rcases h.1.2 with ⟨rfl, h0⟩ | ⟨g, cap, cur, rfl, hbg, hg, hnc, hcm, hcs, htake⟩
  · exact ⟨h.1.1, .inl ⟨rfl, h0⟩⟩
  · exact ⟨h.1.1, .inr ⟨g, cap, cur, rfl, hbg, (ho.block g (Array.getElem?_eq_some_iff.1 hg).1 (hv g rfl)).trans hg, hnc, hcm, hcs, htake⟩⟩
theorem OwnD.lt (h : OwnD w B e v l) : ∀ g, v.ownBlock = some g → B ≤ g ∧ g < w.heap.size := World.ownsRow.lt h.1
theorem OwnD.below (h : OwnD w B e v l) (hb : Below w.heap.size w w') : OwnD w' B e v l := h.out (S := fun b => w.heap.size ≤ b) (.ofBelow hb fun _ _ h => h) fun g hg hx => by have := h.lt g hg; omega
theorem OwnD.alloc (h : OwnD w B e v l) (o : Obj) : OwnD (w.alloc o) B e v l := ⟨World.ownsRow.alloc h.1 o, h.2⟩
theorem OwnD.drewN (h : OwnD w B e v l) (n : Nat) : OwnD (w.drewN n) B e v l := h
theorem OwnD.mono {B' : Nat} (h : OwnD w B e v l) (hB : B' ≤ B) : OwnD w B' e v l := by
  refine ⟨?_, h.2⟩
  rcases h.1.2 with ⟨rfl, h0⟩ | ⟨g, cap, cur, rfl, hbg, hg, hnc, hcm, hcs, htake⟩
  · exact ⟨h.1.1, .inl ⟨rfl, h0⟩⟩
  · exact ⟨h.1.1, .inr ⟨g, cap, cur, rfl, by omega, hg, hnc, hcm, hcs, htake⟩⟩
theorem OwnD.turned (h : OwnD w B e v l) (ht : TurnsIn (fun b => v.ownBlock = some b) w w') (hB : B ≤ w.heap.size) : Below B w w' :=
  ht.toBelow hB fun b hb he => by have := h.lt b he; omega

theorem run_append_dig (he : DigElem P t e) (h : OwnD w B e v l) {d : List Int} (hd : D32 d) (c : Nat) (hsz : l.length ≤ 1000000) (hbase : B ≤ w.heap.size) (ty : TypeId) :
    ∃ A' c' w', (Builtin.append_ #[t, t] ty #[v, .slice (some ⟨w.heap.size, 0, none⟩) 1 c]).run P (w.alloc (.cells (dcells d).toArray e)) = .ok (.slice A' (l.length + 1) c') w' ∧
      OwnD w' B e (.slice A' (l.length + 1) c') (l ++ [d]) ∧ TurnsIn (fun b => v.ownBlock = some b) w w' := by
  obtain ⟨ht, hinfo⟩ := he
  obtain ⟨i, hi, hz, hs, hby⟩ := info_parts hinfo
  have hdl : (dcells d).length = 32 := by unfold dcells; rw [List.length_map]; exact hd.1
  have hnew := Block.new w e (dcells d).toArray
  obtain ⟨g, cap, w', hrun, h2, h3, _, _⟩ := run_append_lies (P := P) (w.alloc (.cells (dcells d).toArray e)) t ty B e i _ 32 32 ht hi hz hs hby rfl (by omega) v l.length (l.flatMap dcells) (World.ownsRow.alloc h.1 _)
    ⟨w.heap.size, 0, none⟩ 1 c (dcells d) (by rw [hdl]) (by
      intro j u hu
      have := World.news_of_block hnew j u (by simpa using hu)
      exact this) (ints_one .u8 d) (by omega) (by unfold maxLen; omega) (by omega) (by simp; omega) _ rfl
  refine ⟨some ⟨g, 0, none⟩, cap, w', hrun, ⟨?_, fun x hx => ?_⟩, ((TurnsIn.refl _ w).alloc _).trans (.ofGrown h3 fun b hb => hb)⟩
  · rw [List.length_append, List.flatMap_append]
    simpa using h2
  · rcases List.mem_append.1 hx with hx | hx
    · exact h.2 x hx
    · obtain rfl := List.mem_singleton.1 hx
      exact hd

theorem wpList_append_dig {ops : Array Oper} {rest : List Oper} {o : Oper} {a : Act} {Q : Exit → Act → World → Prop} (hgd : o.guard = none) (s x : Operand) (t : TypeId)
    (ho : o.op = Op.call { callee := Callee.builtin Builtin.append, args := #[s, x], argTypes := #[t, t] }) (he : DigElem P t e)
    (hown : OwnD w B e v l) (hs : a.eval s = v) {d : List Int} (hd : D32 d) {c : Nat} (hx : a.eval x = .slice (some ⟨w.heap.size, 0, none⟩) 1 c) (hsz : l.length ≤ 1000000) (hbase : B ≤ w.heap.size)
    (hK : ∀ A' c' w', OwnD w' B e (.slice A' (l.length + 1) c') (l ++ [d]) → TurnsIn (fun b => v.ownBlock = some b) w w' → wpList P ops Q rest (a.put o.dst (.slice A' (l.length + 1) c')) w') :
    wpList P ops Q (o :: rest) a (w.alloc (.cells (dcells d).toArray e)) := by
  refine wpList_plain hgd fun K hK2 => ?_
  obtain ⟨A', c', w', hrun, h2, h3⟩ := run_append_dig he hown hd c hsz hbase o.type
  unfold Oper.wp
  simp only [execOp, ho, resolve, invoke, builtin, Sem.run_bind, Sem.run_pure, Result.andThen_ok, List.map_toArray, List.map_cons, List.map_nil, hs, hx, hrun]
  exact hK2 _ _ (hK _ _ _ h2 h3)

theorem step_append_dig {ops : Array Oper} {o : Oper} {a : Act} {K : Act → World → Prop} {Q : Exit → Act → World → Prop} {E : Prop} (hgd : o.guard = none) (s x : Operand) (t : TypeId)
    (ho : o.op = Op.call { callee := Callee.builtin Builtin.append, args := #[s, x], argTypes := #[t, t] }) (he : DigElem P t e)
    (hown : OwnD w B e v l) (hs : a.eval s = v) {d : List Int} (hd : D32 d) {c : Nat} (hx : a.eval x = .slice (some ⟨w.heap.size, 0, none⟩) 1 c) (hsz : l.length ≤ 1000000) (hbase : B ≤ w.heap.size)
    (hK : ∀ A' c' w', OwnD w' B e (.slice A' (l.length + 1) c') (l ++ [d]) → TurnsIn (fun b => v.ownBlock = some b) w w' → K (a.put o.dst (.slice A' (l.length + 1) c')) w') :
    if Region.wanted o (yielded ops a.tmps) = true then Oper.wp P o a (w.alloc (.cells (dcells d).toArray e)) K Q else E := by
  have hw : Region.wanted o (yielded ops a.tmps) = true := by simp [Region.wanted, hgd]
  rw [if_pos hw]
  obtain ⟨A', c', w', hrun, h2, h3⟩ := run_append_dig he hown hd c hsz hbase o.type
  unfold Oper.wp
  simp [execOp, ho, resolve, invoke, builtin, hs, hx, hrun, Result.andThen]
  exact hK _ _ _ h2 h3
end

theorem fold_sets : ∀ (vs : List Value) (k : Nat) (cs : Array Value), k + vs.length ≤ cs.size →
    (vs.zipIdx k).foldl (fun cs (x : Value × Nat) => cs.setIfInBounds x.2 x.1) cs = (cs.toList.take k ++ (vs ++ cs.toList.drop (k + vs.length))).toArray
  | [], k, cs, _ => by simp
  | v :: r, k, cs, h => by
    simp only [List.length_cons] at h
    have h1 := fold_sets r (k + 1) (cs.setIfInBounds k v) (by simp; omega)
    rw [List.zipIdx_cons, List.foldl_cons, h1]
    congr 1
    rw [Array.toList_setIfInBounds, List.take_add_one]
    have hd : (cs.toList.set k v).drop (k + 1 + r.length) = cs.toList.drop (k + (v :: r).length) := by
      rw [List.drop_set, if_pos (by omega), List.length_cons]; congr 1; omega
    rw [hd]
    have ht : (cs.toList.set k v).take k = cs.toList.take k := by
      apply List.ext_getElem?
      intro j
      rw [List.getElem?_take, List.getElem?_take]
      split
      · rw [List.getElem?_set_ne (by omega)]
      · rfl
    rw [ht]
    simp [show k < cs.size by omega]
theorem fold_whole (vs : List Value) (cs : Array Value) (h : vs.length = cs.size) : (vs.zipIdx).foldl (fun cs (x : Value × Nat) => cs.setIfInBounds x.2 x.1) cs = vs.toArray := by
  have := fold_sets vs 0 cs (by omega)
  rw [this]
  congr 1
  simp [h]

/-- A slice of one sum, built. -/
theorem run_build_dig {P : Program} {t e : TypeId} (w : World) (he : DigElem P t e) (hz : ∀ W, (zeroValue e).run P W = .ok (.agg (dcells (List.replicate 32 0)).toArray) W) {d : List Int} (hd : D32 d) :
    (Instr.buildSlice t 1 #[(0, .agg (dcells d).toArray)]).run P w = .ok (.slice (some ⟨w.heap.size, 0, none⟩) 1 1) (w.alloc (.cells (dcells d).toArray e)) := by
  obtain ⟨ht, hinfo⟩ := he
  obtain ⟨i, hi, hz2, hs, hby⟩ := info_parts hinfo
  have hdl : (dcells d).length = 32 := by unfold dcells; rw [List.length_map]; exact hd.1
  have hf : ∀ Z : Array Value, Z.size = 32 → Instr.fill (fun i => some (i * 32, 32)) Z [(0, .agg (dcells d).toArray)] = some (dcells d).toArray := fun Z hZ => by
    have hc : (Value.agg (dcells d).toArray).cells = (dcells d).toArray := rfl
    have hcs : (dcells d).toArray.size = 32 := by simp [hdl]
    simp [Instr.fill, hc, hcs, hZ, hdl]
    have e : Array.foldl (fun cs (x : Value × Nat) => cs.setIfInBounds x.2 x.1) Z (dcells d).toArray.zipIdx = (dcells d).toArray := by
      rw [← Array.foldl_toList]
      simp only [Array.toList_zipIdx]
      exact fold_whole (dcells d) Z (by rw [hdl, hZ])
    simpa [hdl] using e
  unfold Instr.buildSlice
  simp only [Sem.run_bind, run_underlying ht, Result.andThen_ok]
  have hso : ∀ W, (sizeOf e).run P W = .ok 32 W := fun W => by simp [sizeOf, typeInfo, hi, hs]
  simp only [hso, Result.andThen_ok, Sem.run_bind]
  rw [if_neg (by decide), if_neg (by decide)]
  simp only [hz, Sem.run_bind, Sem.run_pure, Result.andThen_ok]
  rw [hf _ (by simp)]
  simp [newRow]

theorem wpList_build_dig {P : Program} {w : World} {ops : Array Oper} {rest : List Oper} {o : Oper} {a : Act} {Q : Exit → Act → World → Prop} (hgd : o.guard = none) (t : TypeId) {e : TypeId} (x : Operand) (ho : o.op = .buildSlice t 1 #[(0, x)])
    (he : DigElem P t e) (hz : ∀ W, (zeroValue e).run P W = .ok (.agg (dcells (List.replicate 32 0)).toArray) W) {d : List Int} (hd : D32 d) (hx : a.eval x = .agg (dcells d).toArray)
    (h : wpList P ops Q rest (a.put o.dst (.slice (some ⟨w.heap.size, 0, none⟩) 1 1)) (w.alloc (.cells (dcells d).toArray e))) : wpList P ops Q (o :: rest) a w := by
  refine wpList_plain hgd fun K hK => ?_
  unfold Oper.wp
  simp only [execOp, ho, List.map_toArray, List.map_cons, List.map_nil, hx, Sem.run_bind, Sem.run_pure, run_build_dig w he hz hd, Result.andThen_ok]
  exact hK _ _ h
theorem step_build_dig {P : Program} {w : World} {ops : Array Oper} {o : Oper} {a : Act} {K : Act → World → Prop} {Q : Exit → Act → World → Prop} {E : Prop} (hgd : o.guard = none) (t : TypeId) {e : TypeId} (x : Operand) (ho : o.op = .buildSlice t 1 #[(0, x)])
    (he : DigElem P t e) (hz : ∀ W, (zeroValue e).run P W = .ok (.agg (dcells (List.replicate 32 0)).toArray) W) {d : List Int} (hd : D32 d) (hx : a.eval x = .agg (dcells d).toArray)
    (h : K (a.put o.dst (.slice (some ⟨w.heap.size, 0, none⟩) 1 1)) (w.alloc (.cells (dcells d).toArray e))) : if Region.wanted o (yielded ops a.tmps) = true then Oper.wp P o a w K Q else E := by
  have hw : Region.wanted o (yielded ops a.tmps) = true := by simp [Region.wanted, hgd]
  rw [if_pos hw]
  unfold Oper.wp
  simp only [execOp, ho, List.map_toArray, List.map_cons, List.map_nil, hx, Sem.run_bind, Sem.run_pure, run_build_dig w he hz hd, Result.andThen_ok]
  exact h
theorem zeroD (W : World) : (zeroValue 26).run Tryd.prog W = .ok (.agg (dcells (List.replicate 32 0)).toArray) W := by kernel_rfl
theorem zeroR (W : World) : (zeroValue 24).run Tryd.prog W = .ok (.agg (dcells (List.replicate 32 0)).toArray) W := by kernel_rfl

/-- A new row of the call's own that reads these sums. -/
def RowedD (e : TypeId) (l : List (List Int)) (w : World) (en : Ending) (w' : World) : Prop := ∃ v, en = .returned v ∧ OwnD w' w.heap.size e v l ∧ Below w.heap.size w w'

set_option maxRecDepth 100000 in
set_option maxHeartbeats 1600000 in
theorem digests_any (A : Option Addr) (l : List (List Int)) (c : Nat) (w : World) (hc : l.length ≤ c) (hm : c ≤ maxLen) (hr : HoldsD w w.heap.size A l) (h1 : l.length ≤ 1000000) :
    Calls Tryd.prog 29 #[.slice A l.length c] w (RowedD 26 l w) := by
  unfold maxLen at hm
  have o0 := OwnD.empty (B := w.heap.size) w 26 (Nat.le_refl _)
  have b0 := below_new (w := w) (.cells #[] 26)
  go_enter Tryd.func29, Tryd.ntmps29
  go_wp2_with fail
  go_loopw [3, 4] (fun v s wr => ∃ (i : Nat) (A' : Option Addr) (c' : Nat), i ≤ l.length ∧ s = .int .i64 i ∧ v = .slice A' i c' ∧ OwnD wr w.heap.size 26 (.slice A' i c') (l.take i) ∧ Below w.heap.size w wr) (fun _ s _ => l.length - (intOf s).toNat)
  case atStart => exact ⟨0, _, _, by omega, rfl, rfl, o0, b0⟩
  case round =>
    clear o0 b0
    obtain ⟨i, A', c', hi, rfl, rfl, own, hb⟩ := hrel
    by_cases hlt : i < l.length
    · obtain ⟨b, off, rfl, hbl, hrg, hd⟩ := (hr.below hb).at_ hlt
      have hjn := Lib.hid (show l.take (i + 1) = l.take i ++ [l[i]] from List.take_succ_eq_append_getElem hlt)
      have hdl := Lib.hid hd.1
      have hd := Lib.hid hd
      have htl := Lib.hid (show (l.take i).length = i by rw [List.length_take]; omega)
      have hbs := hb.size
      generalize l[i] = d at *
      have hlen2 : (l.take i).length ≤ 1000000 := by rw [htl.out]; omega
      go_wp2_with (first
        | (refine wpList_load_mid rfl _ _ rfl b (off + i * 32) rfl (d.map (Value.int .u8)) _ hrg arr32A rfl (by rw [List.length_map, hdl.out]; kernel_rfl) ?_)
        | (refine wpList_build_dig rfl _ _ rfl elemD zeroD hd.out rfl ?_)
        | (refine wpList_append_dig rfl _ _ _ rfl elemD own rfl hd.out rfl hlen2 hbs ?_; rw [htl.out]; intro A2 c2 w2 own2 t2; have hb2 := hb.trans (own.turned t2 hbs)))
      go_roundw
      case rel => exact ⟨i + 1, A2, c2, by omega, by go_num, rfl, by rw [hjn.out]; exact own2, hb2⟩
      case measure => simp [intOf] <;> omega
    · obtain rfl : i = l.length := by omega
      rw [List.take_of_length_le (Nat.le_refl _)] at own
      go_wp2_with fail
      go_ret
      exact ⟨_, rfl, own, hb⟩
end Go.Proofs.YtdfgdchmeikigaaDoor.Mk
