/-
  Own words: a row of bytes read as a string; a step that kept rows apart. No program. No conditions beyond what each theorem names.
  Own words: two rows of bytes that read as one string are the same. No program. No conditions beyond what each theorem names.
  Own words: whole arrays of integers stored and loaded, as steps of a region that draws its order. No program. No conditions beyond what each theorem names.
  Own words: rows of bytes that a call lays itself in a new block. No program. No conditions beyond what each theorem names.
  Own words: rows that stay where something new is laid and filled; a row's first numbers; rows that grow in a world that only adds. No program. No conditions beyond what each theorem names.
  Own words for rows of values of one cell each (slices, strings) that a call makes itself: append, and rows of bytes among them. No program. No conditions beyond what each theorem names.
-/
import Derived.Test.YtpdlibegjkbknaaDoorMOut
import Derived.Laws.BytesArg
import Derived.Test.YtpdlibegjkbknaaDoorMArr
import Derived.Test.YtpdlibegjkbknaaDoorMGSnes0
import Derived.Test.YtpdlibegjkbknaaDoorMStB
namespace Go.Proofs.YtpdlibegjkbknaaDoor.Kit
open Go.ChangeShapes Go.WideShapes Go.ChangeAt Go.RowKit

theorem conv_bytes {P : Program} {t e ts : TypeId} (ht : P.underlying t = some (.slice e)) (he : P.underlying e = some (.int .u8)) (hs : P.underlying ts = some .string)
    (w : World) (A : Option Addr) (xs : List Int) (c B : Nat) (hr : Holds w B .u8 A xs) :
    (convert t ts (.slice A xs.length c)).run P w = .ok (.string (strOfNums xs)) w := by
  rcases Nat.eq_zero_or_pos xs.length with h0 | h0
  · obtain rfl : xs = [] := List.eq_nil_of_length_eq_zero h0
    cases A with
    | none => exact run_convert_bytes_nil w _ _ ht he _ _ _ hs
    | some ad =>
      have hl : (loadCells ad 0).run P w = .ok (([] : List Int).map (Value.int .u8)).toArray w := by simpa using run_loadCells_list (P := P) w ad [] (by simp)
      rw [run_convert_bytes_string w _ _ e _ _ c ht he hs]
      rw [show ([] : List Int).length = 0 from rfl, run_bytesToString w ad 0 c [] hl]
      rfl
  · obtain ⟨b, off, rfl, _, hc⟩ := hr h0
    exact run_convert_bytes_arg w _ _ ht he b off xs.length c xs rfl hc _ hs

/-- No block is both rows'. -/
def Apart (u v : Value) : Prop := ∀ b, u.ownBlock = some b → v.ownBlock ≠ some b
theorem Apart.symm {u v : Value} (h : Apart u v) : Apart v u := fun b hb hu => h b hu hb
theorem Apart.newer {w : World} {u v v' : Value} (h : Apart u v) (hu : ∀ b, u.ownBlock = some b → b < w.heap.size) (n : Newer w v v') : Apart u v' := by
  intro b hb
  rcases n with n | n
  · rw [n]; exact h b hb
  · intro he
    have h1 := n b he
    have h2 := hu b hb
    omega
theorem Own.top {w : World} {B : Nat} {e : TypeId} {k : IntKind} {v : Value} {xs : List Int} (h : Own w B e k v xs) : ∀ b, v.ownBlock = some b → b < w.heap.size := fun b hb => (h.lt b hb).2
/-- A new row is apart from all that was there. -/
theorem Apart.new {w w' : World} {B : Nat} {e : TypeId} {k : IntKind} {u v : Value} {xs : List Int} (h : Own w' B e k v xs) (hB : w.heap.size ≤ B) (hu : ∀ b, u.ownBlock = some b → b < w.heap.size) : Apart u v := by
  intro b hb he
  have h1 := h.lt b he
  have h2 := hu b hb
  omega

/-- n elements from the p-th on. -/
theorem Holds.sub {w : World} {B : Nat} {k : IntKind} {b off : Nat} {xs : List Int} (h : Holds w B k (some ⟨b, off, none⟩) xs) (p n : Nat) (hn : p + n ≤ xs.length) : Holds w B k (some ⟨b, off + p, none⟩) ((xs.drop p).take n) := by
  intro hx
  have hl : ((xs.drop p).take n).length = n := by simp; omega
  rw [hl] at hx
  obtain ⟨b2, o2, hA, hb, hc⟩ := h (by omega)
  injection hA with hA
  injection hA with e1 e2
  subst e1 e2
  refine ⟨b, off + p, rfl, hb, fun j hj => ?_⟩
  rw [hl] at hj
  rw [Nat.add_assoc, hc (p + j) (by omega)]
  simp [List.getD, List.getElem?_take, hj]
end Go.Proofs.YtpdlibegjkbknaaDoor.Kit

namespace Go.Proofs.YtpdlibegjkbknaaDoor.Kit
open Go.ChangeShapes Go.WideShapes Go.ChangeAt Go.RowKit

theorem strOfNums_inj {xs ys : List Int} (hx : Octets xs) (hy : Octets ys) (h : strOfNums xs = strOfNums ys) : xs = ys := by
  unfold strOfNums at h
  have h1 := congrArg (fun b : ByteArray => b.data.toList) h
  simp at h1
  have key : ∀ (xs ys : List Int), Octets xs → Octets ys → xs.map (fun n => UInt8.ofNat n.toNat) = ys.map (fun n => UInt8.ofNat n.toNat) → xs = ys := by
    intro xs
    induction xs with
    | nil => intro ys _ _ h; cases ys with
      | nil => rfl
      | cons y ys => simp at h
    | cons x xs ih =>
      intro ys hx hy h
      cases ys with
      | nil => simp at h
      | cons y ys =>
        simp only [List.map_cons, List.cons.injEq] at h
        have hxx := hx x (by simp)
        have hyy := hy y (by simp)
        have e := congrArg UInt8.toNat h.1
        simp only [UInt8.toNat_ofNat'] at e
        have : x = y := by omega
        rw [this, ih ys (fun z hz => hx z (by simp [hz])) (fun z hz => hy z (by simp [hz])) h.2]
  exact key xs ys hx hy h1
end Go.Proofs.YtpdlibegjkbknaaDoor.Kit

namespace Go.Proofs.YtpdlibegjkbknaaDoor.Kit
open Go.ChangeShapes Go.WideShapes Go.ChangeAt Go.RowKit

theorem step_store_arr {P : Program} {ops : Array Oper} {o : Oper} {a : Act} {w : World} {K : Act → World → Prop} {Q : Exit → Act → World → Prop} {E : Prop}
    (hgd : o.guard = none) (ty : TypeId) (x y : Operand) (ho : o.op = .store ty x y)
    {g : Nat} {t : TypeId} {k : IntKind} {xs ys : List Int} (h : Arr w g t k xs) (hx : a.eval x = .pointer (some ⟨g, 0, none⟩)) (hy : a.eval y = arrV k ys) (hl : ys.length = xs.length) (hi : (P.info? ty).map (·.size) = some ys.length)
    (hK : ∀ w', Arr w' g t k ys → w.grownBy w' (some g) → K (a.put o.dst undef) w') : if Region.wanted o (yielded ops a.tmps) = true then Oper.wp P o a w K Q else E := by
  have hw : Region.wanted o (yielded ops a.tmps) = true := by simp [Region.wanted, hgd]
  rw [if_pos hw]
  refine wp_store_mid ty x y ho g 0 (ys.map (Value.int k)).toArray hx hy (by simpa using h.there (by omega)) (by simpa using hi) (all_oneCell_toArray (ints_one k ys)) ?_
  refine hK _ ?_ (setCells_grown g _ 0 w)
  have := setCells_block (ys.map (Value.int k)) 0 w _ h (by simp; omega)
  unfold Arr
  have e : ((xs.map (Value.int k)).toArray.toList.take 0 ++ (ys.map (Value.int k) ++ (xs.map (Value.int k)).toArray.toList.drop (0 + (ys.map (Value.int k)).length))).toArray = (ys.map (Value.int k)).toArray := by
    simp [hl]
  rw [e] at this
  simpa using this

/-- A row that lies in memory is loaded as a whole. -/
theorem step_load_row {P : Program} {ops : Array Oper} {o : Oper} {a : Act} {w : World} {K : Act → World → Prop} {Q : Exit → Act → World → Prop} {E : Prop}
    (hw : Region.wanted o (yielded ops a.tmps) = true) (ty : TypeId) (x : Operand) (ho : o.op = .load ty x)
    (b f : Nat) (cs : List Value) (hx : a.eval x = .pointer (some ⟨b, f, none⟩)) (hc : w.rangeAt b f cs) {d : TypeDesc} (hu : P.underlying ty = some d) (hd : d.isRow = true) (hi : (P.info? ty).map (·.size) = some cs.length)
    (hK : K (a.put o.dst (.agg cs.toArray)) w) : if Region.wanted o (yielded ops a.tmps) = true then Oper.wp P o a w K Q else E := by
  rw [if_pos hw]
  exact wp_load_mid ty x ho b f hx cs d hc hu hd hi hK
end Go.Proofs.YtpdlibegjkbknaaDoor.Kit

namespace Go.Proofs.YtpdlibegjkbknaaDoor.Kit
open Go.ChangeShapes Go.WideShapes Go.ChangeAt Go.RowKit

/-- A row's slice. -/
def Rw.val (r : Rw) : Value := .slice r.A r.zs.length r.cap
/-- A row that may be. -/
def RwOk (w : World) (B : Nat) (r : Rw) : Prop := r.zs.length ≤ r.cap ∧ r.cap ≤ maxLen ∧ Octets r.zs ∧ Holds w B .u8 r.A r.zs

theorem RwOk.below {w w' : World} {B : Nat} {r : Rw} (h : RwOk w B r) (hb : Below B w w') : RwOk w' B r := ⟨h.1, h.2.1, h.2.2.1, h.2.2.2.below hb⟩
theorem RwOk.more {w : World} {B B' : Nat} {r : Rw} (h : RwOk w B r) (hb : B ≤ B') : RwOk w B' r := ⟨h.1, h.2.1, h.2.2.1, h.2.2.2.more hb⟩
theorem RwOk.on {w w' : World} {r : Rw} (h : RwOk w w.heap.size r) (hb : Below w.heap.size w w') : RwOk w' w'.heap.size r := (h.below hb).more hb.size
theorem RwOk.arr {w : World} {g : Nat} {t : TypeId} {xs : List Int} (h : Arr w g t .u8 xs) (ho : Octets xs) (hl : xs.length ≤ maxLen) : RwOk w w.heap.size ⟨some ⟨g, 0, none⟩, xs.length, xs⟩ :=
  ⟨Nat.le_refl _, hl, ho, h.holds_all⟩

theorem rows_laid {w : World} {t : TypeId} (rs : List Rw) (h : ∀ r ∈ rs, RwOk w w.heap.size r) :
    HoldsW (w.alloc (.cells (rs.map Rw.val).toArray t)) (w.alloc (.cells (rs.map Rw.val).toArray t)).heap.size (some ⟨w.heap.size, 0, none⟩) rs := by
  have bk := Block.new w t (rs.map Rw.val).toArray
  have hb := (Below.refl w.heap.size w).alloc (Nat.le_refl _) (.cells (rs.map Rw.val).toArray t)
  intro _
  refine ⟨w.heap.size, 0, rfl, by simp, fun i r hi => ?_⟩
  have hr := (h r (List.mem_of_getElem? hi)).on hb
  refine ⟨_, ⟨rfl, hr⟩, rfl, fun j v hj => ?_⟩
  have hj0 : j = 0 := by
    rcases j with _ | j
    · rfl
    · simp at hj
  subst hj0
  have hv : v = r.val := by simpa [Rw.val] using hj.symm
  subst hv
  rw [Nat.zero_add, Nat.mul_one, Nat.add_zero, bk.cell i]
  simp [hi]
end Go.Proofs.YtpdlibegjkbknaaDoor.Kit

namespace Go.Proofs.YtpdlibegjkbknaaDoor.Kit
open Go.ChangeShapes Go.WideShapes Go.ChangeAt Go.RowKit

theorem res_new (w : World) (t : TypeId) : Arr (w.alloc (.cells ((List.replicate 32 (0 : Int)).map (Value.int .u8)).toArray t)) w.heap.size t .u8 (List.replicate 32 0) := Arr.new w _ _ _
theorem arr_kept {w w' : World} {g : Nat} {t : TypeId} {k : IntKind} {xs : List Int} {o : Obj} (h : Arr w g t k xs) (g9 : (w.alloc o).grownBy w' (some w.heap.size)) : Arr w' g t k xs :=
  Arr.grown (h.alloc o) g9 (by intro e; injection e with e; have := Arr.lt h; omega)
theorem below_fill {B : Nat} {w0 w w' : World} {o : Obj} (h : Below B w0 w) (hB : B ≤ w.heap.size) (g9 : (w.alloc o).grownBy w' (some w.heap.size)) : Below B w0 w' :=
  (h.alloc hB o).trans (below_of_grown g9 (by simp; omega) fun b hb => by injection hb with hb; omega)
theorem Holds.prefix_ {w : World} {B : Nat} {k : IntKind} {A : Option Addr} {xs : List Int} (h : Holds w B k A xs) (n : Nat) : Holds w B k A (xs.take n) := by
  intro hx
  rw [List.length_take] at hx
  obtain ⟨b, off, e, hb, hc⟩ := h (by omega)
  refine ⟨b, off, e, hb, fun j hj => ?_⟩
  rw [List.length_take] at hj
  rw [hc j (by omega)]
  simp [List.getD, List.getElem?_take, show j < n by omega]
theorem Holds.on {w w' : World} {k : IntKind} {A : Option Addr} {xs : List Int} (h : Holds w w.heap.size k A xs) (hb : Below w.heap.size w w') : Holds w' w'.heap.size k A xs := (h.below hb).more hb.size
theorem Holds.fill {w w' : World} {k : IntKind} {A : Option Addr} {xs : List Int} {o : Obj} (h : Holds w w.heap.size k A xs) (g9 : (w.alloc o).grownBy w' (some w.heap.size)) : Holds w' w'.heap.size k A xs := h.on (below_fill (Below.refl _ _) (Nat.le_refl _) g9)

/-- Results: a whole array out of its block, and a plain value. -/
theorem results_row_tmp {P : Program} {fn : Func} {p q : Tmp} {ty : TypeId} (h : fn.results = #[.cell p ty, .tmp q]) (tmps : Array Value) (w : World) (g : Nat) (t : TypeId) (cs : Array Value) (fr : Nat × Nat) (d : TypeDesc)
    (hp : tmps.getD p undef = .pointer (some ⟨g, 0, none⟩)) (hg : w.heap[g]? = some (.cells cs t fr)) (v : Value) (hq : tmps.getD q undef = v)
    (hu : P.underlying ty = some d) (hd : (match d with | .struct _ | .array _ _ => true | _ => false) = true) (hi : (P.info? ty).map (·.size) = some cs.size) :
    (results fn tmps).run P w = .ok (.tuple #[.agg cs, v]) w := by
  have hp' : tmps[p]?.getD undef = .pointer (some ⟨g, 0, none⟩) := by simpa using hp
  have hq' : tmps[q]?.getD undef = v := by simpa using hq
  simp [results, h, hp', hq', asAddr, run_loadVar_row w g t ty cs fr d hg hu hd hi]
end Go.Proofs.YtpdlibegjkbknaaDoor.Kit

namespace Go.Proofs.YtpdlibegjkbknaaDoor.Kit
open Go.ChangeShapes Go.WideShapes Go.ChangeAt Go.RowKit

/-- v is a slice of the call's own, from block B on (or nil), and holds the values us. -/
def OwnV (w : World) (B : Nat) (e : TypeId) (v : Value) (us : List Value) : Prop := w.ownsRow B e 1 v us.length us
/-- t is the type of slices over e, of one cell. -/
def ValElem (P : Program) (t e : TypeId) (z : Value) (bytes : Nat) : Prop :=
  P.underlying t = some (.slice e) ∧ (P.info? e).map (fun i => (i.zero, i.size, i.bytes)) = some (some z, 1, bytes) ∧ z.cells.size = 1 ∧ bytes ≤ 64

section
variable {P : Program} {w w' : World} {B : Nat} {e : TypeId} {v : Value} {us : List Value}

theorem OwnV.nil (w : World) (B : Nat) (e : TypeId) : OwnV w B e (.slice none 0 0) [] := World.ownsRow_nil w B e 1
theorem OwnV.empty (w : World) (e : TypeId) (hB : B ≤ w.heap.size) : OwnV (w.alloc (.cells #[] e)) B e (.slice (some ⟨w.heap.size, 0, none⟩) 0 0) [] :=
  World.ownsRow_lit (size := 1) w #[] 0 hB (Nat.zero_le _) rfl
theorem OwnV.one (w : World) (e : TypeId) (hB : B ≤ w.heap.size) (u : Value) : OwnV (w.alloc (.cells #[u] e)) B e (.slice (some ⟨w.heap.size, 0, none⟩) 1 1) [u] :=
  World.ownsRow_lit (size := 1) w #[u] 1 hB (by decide) rfl
theorem OwnV.lt (h : OwnV w B e v us) : ∀ g, v.ownBlock = some g → B ≤ g ∧ g < w.heap.size := World.ownsRow.lt h
theorem OwnV.alloc (h : OwnV w B e v us) (o : Obj) : OwnV (w.alloc o) B e v us := World.ownsRow.alloc h o
theorem OwnV.drewN (h : OwnV w B e v us) (n : Nat) : OwnV (w.drewN n) B e v us := h
theorem OwnV.mono {B' : Nat} (h : OwnV w B e v us) (hb : B' ≤ B) : OwnV w B' e v us := by
  rcases h.2 with ⟨rfl, h0⟩ | ⟨g, cap, cur, rfl, hbg, hrest⟩
  · exact ⟨h.1, .inl ⟨rfl, h0⟩⟩
  · exact ⟨h.1, .inr ⟨g, cap, cur, rfl, by omega, hrest⟩⟩
theorem OwnV.kept {row : Option Nat} (h : OwnV w B e v us) (hg : w.grownBy w' row) (hne : v.ownBlock = none ∨ v.ownBlock ≠ row) : OwnV w' B e v us := World.ownsRow.kept h hg hne
theorem OwnV.below (h : OwnV w B e v us) (hb : Below w.heap.size w w') : OwnV w' B e v us := by
  refine h.kept (row := none) ⟨hb.os, hb.tape, hb.output, hb.size, fun g hg _ => hb.block g hg⟩ ?_
  cases hv : v.ownBlock with
  | none => exact .inl rfl
  | some g => exact .inr (by simp)
theorem OwnV.opened (h : OwnV w B e v us) : ∃ (A : Option Addr) (cap : Nat), v = .slice A us.length cap ∧ us.length ≤ cap ∧ cap ≤ maxLen := by
  rcases h.2 with ⟨rfl, h0⟩ | ⟨g, cap, cur, rfl, hb, hg, hnc, hcm, hcs, htake⟩
  · exact ⟨none, 0, by rw [h0], by omega, Nat.zero_le _⟩
  · exact ⟨some ⟨g, 0, none⟩, cap, rfl, hnc, hcm⟩
theorem OwnV.cellAt {A : Option Addr} {n cap : Nat} (h : OwnV w B e (.slice A n cap) us) {i : Nat} (hi : i < us.length) : ∃ g, A = some ⟨g, 0, none⟩ ∧ g < w.heap.size ∧ w.cell? ⟨g, i, none⟩ = some us[i] := by
  rcases h.2 with ⟨h1, h0⟩ | ⟨g, cap, cur, h1, hb, hg, hnc, hcm, hcs, htake⟩
  · omega
  · injection h1 with h1 h2 h3
    subst h1 h2 h3
    refine ⟨g, rfl, (Array.getElem?_eq_some_iff.1 hg).1, ?_⟩
    rw [World.ownsRow.cellAt h i (by omega)]
    exact List.getElem?_eq_getElem hi

/-- Rows of other types of cells never share its block. -/
theorem OwnV.ne_block {g : Nat} {t : TypeId} {cs : Array Value} (h : OwnV w B e v us) (hg : Block w g t cs) (hne : t ≠ e) : v.ownBlock ≠ some g := by
  rcases h.2 with ⟨rfl, _⟩ | ⟨g', cap, cur, rfl, _, hh, _⟩
  · simp [Value.ownBlock]
  · intro he
    obtain rfl : g' = g := by simpa [Value.ownBlock] using he
    unfold Block at hg
    rw [hh] at hg
    injection hg with hg
    injection hg with _ ht
    exact hne ht.symm

/-- append(v, u): u lies alone in the newest block. -/
theorem wpList_append_val {ops : Array Oper} {rest : List Oper} {o : Oper} {a : Act} {Q : Exit → Act → World → Prop} (hgd : o.guard = none) (s x : Operand) (t : TypeId)
    (ho : o.op = .call { callee := .builtin .append, args := #[s, x], argTypes := #[t, t] }) {z : Value} {bytes : Nat} (he : ValElem P t e z bytes)
    (hown : OwnV w B e v us) (hs : a.eval s = v) {u : Value} {c : Nat} {e2 : TypeId} (hx : a.eval x = .slice (some ⟨w.heap.size, 0, none⟩) 1 c) (hu : u.oneCell' = true) (hsz : us.length + 1 ≤ 1099511627776) (hbase : B ≤ w.heap.size)
    (h : ∀ v' w', OwnV w' B e v' (us ++ [u]) → (w.alloc (.cells #[u] e2)).grownBy w' v.ownBlock → Below B w w' → wpList P ops Q rest (a.put o.dst v') w') :
    wpList P ops Q (o :: rest) a (w.alloc (.cells #[u] e2)) := by
  obtain ⟨ht, hinfo, hz1, hb8⟩ := he
  obtain ⟨i, hi, hz, hsi, hby⟩ := info_parts hinfo
  refine wpList_plain hgd fun K hK => ?_
  have hmul : (us.length + 1) * bytes ≤ (us.length + 1) * 64 := Nat.mul_le_mul_left _ hb8
  obtain ⟨v', w', hrun, h2, h3, _, _⟩ := run_append_own_at (P := P) (w.alloc (.cells #[u] e2)) B t o.type e i z 1 bytes ht hi hz hsi hby hz1 (by omega) v us.length us (hown.alloc _)
    ⟨w.heap.size, 0, none⟩ 1 c [u] rfl (by
      intro j y hj
      have hj0 : j = 0 := by
        rcases j with _ | j
        · rfl
        · simp at hj
      subst hj0
      obtain rfl : u = y := by simpa using hj
      rw [add_plain]
      exact cell_of_row (w.alloc (.cells #[u] e2)) w.heap.size 0 #[u] e2 (0, 0) (heap_alloc_new w _)) (by intro y hy; simp at hy; subst hy; exact hu) (by unfold maxLen; omega) (by omega) (by simp; omega)
  have h2 : OwnV w' B e v' (us ++ [u]) := by unfold OwnV; rw [List.length_append, List.length_singleton]; exact h2
  unfold Oper.wp
  simp only [execOp, ho, resolve, invoke, builtin, Sem.run_bind, Sem.run_pure, Result.andThen_ok, List.map_toArray, List.map_cons, List.map_nil, hs, hx, hrun]
  exact hK _ _ (h v' w' h2 h3 (((Below.refl B w).alloc hbase _).trans (below_of_grown h3 (by simp; omega) fun g hg => (hown.lt g hg).1)))
end

/-- A row of bytes that lies whole in a block of another type than e. -/
def RwArr (w : World) (e : TypeId) (r : Rw) : Prop := ∃ (g : Nat) (t : TypeId), t ≠ e ∧ r.A = some ⟨g, 0, none⟩ ∧ r.cap = r.zs.length ∧ r.zs.length ≤ 100000 ∧ Octets r.zs ∧ Arr w g t .u8 r.zs
section
variable {w w' : World} {B : Nat} {e : TypeId} {v : Value} {rs : List Rw} {r : Rw}
theorem RwArr.ok (h : RwArr w e r) : RwOk w w.heap.size r := by
  obtain ⟨g, t, _, hA, hc, hl, ho, ha⟩ := h
  refine ⟨by omega, by unfold maxLen; omega, ho, ?_⟩
  rw [hA]
  exact ha.holds_all
theorem RwArr.below (h : RwArr w e r) (hb : Below w.heap.size w w') : RwArr w' e r := by
  obtain ⟨g, t, h0, hA, hc, hl, ho, ha⟩ := h
  exact ⟨g, t, h0, hA, hc, hl, ho, Block.below ha hb (Block.lt ha)⟩
theorem RwArr.grown {us : List Value} (h : RwArr w e r) (hown : OwnV w B e v us) (hg : w.grownBy w' v.ownBlock) : RwArr w' e r := by
  obtain ⟨g, t, h0, hA, hc, hl, ho, ha⟩ := h
  exact ⟨g, t, h0, hA, hc, hl, ho, Block.grown ha hg (hown.ne_block ha h0)⟩
theorem RwArr.mk {g : Nat} {t : TypeId} {xs : List Int} (ha : Arr w g t .u8 xs) (h0 : t ≠ e) (ho : Octets xs) (hl : xs.length ≤ 100000) : RwArr w e ⟨some ⟨g, 0, none⟩, xs.length, xs⟩ :=
  ⟨g, t, h0, rfl, rfl, hl, ho, ha⟩
theorem OwnV.rows {A : Option Addr} {n cap : Nat} (h : OwnV w B e (.slice A n cap) (rs.map Rw.val)) (hr : ∀ r ∈ rs, RwArr w e r) : HoldsW w w.heap.size A rs := by
  intro hx
  obtain ⟨g, rfl, hlt, _⟩ := h.cellAt (i := 0) (by simpa using hx)
  refine ⟨g, 0, rfl, hlt, fun i r hi => ?_⟩
  have hok := (hr r (List.mem_of_getElem? hi)).ok
  refine ⟨_, ⟨rfl, hok⟩, rfl, fun j u hj => ?_⟩
  have hj0 : j = 0 := by
    rcases j with _ | j
    · rfl
    · simp at hj
  subst hj0
  obtain ⟨hil, hir⟩ := List.getElem?_eq_some_iff.1 hi
  obtain ⟨g2, e2, _, hc⟩ := h.cellAt (i := i) (by simpa using hil)
  injection e2 with e2
  injection e2 with e2
  subst e2
  rw [Nat.zero_add, Nat.mul_one, Nat.add_zero, hc]
  have hu : u = r.val := by simpa [Rw.val] using hj.symm
  subst hu
  rw [List.getElem_map, hir]
end
end Go.Proofs.YtpdlibegjkbknaaDoor.Kit
