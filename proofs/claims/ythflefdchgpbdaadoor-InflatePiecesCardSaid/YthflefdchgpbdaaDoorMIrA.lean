/-
  Layer 13, inflate: the document's reader: fail, get: contracts. Conditions: as each theorem names.
-/
import Derived.Test.YthflefdchgpbdaaDoorMGIces18
import Derived.Test.YthflefdchgpbdaaDoorMHufU
import Derived.Test.YthflefdchgpbdaaDoorMBitN
import Derived.Test.YthflefdchgpbdaaDoorMGIces0
import Derived.Deep.RegionHeld
import Derived.Deep.MidRow
namespace Go.Proofs.YthflefdchgpbdaaDoor.Inf
open Go.ChangeShapes Go.WideShapes Go.ChangeAt Go.RowKit Go.Proofs.YthflefdchgpbdaaDoor.Kit Go.Proofs.YthflefdchgpbdaaDoor.Bits Go.Proofs.YthflefdchgpbdaaDoor.Huf Go.Proofs.YthflefdchgpbdaaDoor.Df

def sC (AL : Option Addr) (nL cL : Nat) (p : Int) (Ao : Option Addr) (no co : Nat) (most e : Int) : Array Value := #[.slice AL nL cL, .int .i64 p, .slice Ao no co, .int .i64 most, .int .i64 e]
def failE (is : Bool) (E e : Int) : Int := if is = true ∧ e = 0 then E else e
/-- A whole block is stored over. -/
theorem wpList_store_blk {P : Program} {w : World} {ops : Array Oper} {rest : List Oper} {o : Oper} {a : Act} {Q : Exit → Act → World → Prop} (hgd : o.guard = none) (ty : TypeId) (x y : Operand) (ho : o.op = .store ty x y)
    {g : Nat} {t : TypeId} {cs : Array Value} {ds : List Value} (h : Block w g t cs) (hx : a.eval x = .pointer (some ⟨g, 0, none⟩)) (hy : a.eval y = .agg ds.toArray) (hl : ds.length = cs.size) (hi : (P.info? ty).map (·.size) = some ds.length) (hone : ∀ u ∈ ds, u.oneCell' = true)
    (hK : ∀ w', Block w' g t ds.toArray → w.grownBy w' (some g) → wpList P ops Q rest (a.put o.dst undef) w') : wpList P ops Q (o :: rest) a w := by
  refine wpList_store_mid hgd ty x y ho g 0 ds.toArray hx hy ?_ (by simpa using hi) (all_oneCell_toArray hone) ?_
  · intro j hj
    have hj' : j < cs.size := by simpa [hl] using hj
    exact ⟨by rw [Nat.zero_add, h.cell, Array.getElem?_eq_getElem hj']; rfl, by rw [Nat.zero_add]; exact h.frozen j⟩
  · refine hK _ ?_ (setCells_grown g _ 0 w)
    have := setCells_block ds 0 w _ h (by omega)
    have e : (cs.toList.take 0 ++ (ds ++ cs.toList.drop (0 + ds.length))).toArray = ds.toArray := by
      rw [List.drop_of_length_le (by simp [hl])]
      simp
    rw [e] at this
    simpa using this
theorem step_store_blk {P : Program} {ops : Array Oper} {o : Oper} {a : Act} {w : World} {K : Act → World → Prop} {Q : Exit → Act → World → Prop} {E : Prop} (hgd : o.guard = none) (ty : TypeId) (x y : Operand) (ho : o.op = .store ty x y)
    {g : Nat} {t : TypeId} {cs : Array Value} {ds : List Value} (h : Block w g t cs) (hx : a.eval x = .pointer (some ⟨g, 0, none⟩)) (hy : a.eval y = .agg ds.toArray) (hl : ds.length = cs.size) (hi : (P.info? ty).map (·.size) = some ds.length) (hone : ∀ u ∈ ds, u.oneCell' = true)
    (hK : ∀ w', Block w' g t ds.toArray → w.grownBy w' (some g) → K (a.put o.dst undef) w') : if Region.wanted o (yielded ops a.tmps) = true then Oper.wp P o a w K Q else E :=
  step_of_list (by simp [Region.wanted, hgd]) fun Q' hn => wpList_store_blk hgd ty x y ho h hx hy hl hi hone fun w' h1 h2 => hn _ _ (hK w' h1 h2)
/-- A row of cells of any values is loaded, where a guard may stand. -/
theorem wpList_load_midV {P : Program} {w : World} {ops : Array Oper} {rest : List Oper} {o : Oper} {a : Act} {Q : Exit → Act → World → Prop} (hw : Region.wanted o (yielded ops a.tmps) = true) (ty : TypeId) (x : Operand) (ho : o.op = .load ty x)
    (b f : Nat) (hx : a.eval x = .pointer (some ⟨b, f, none⟩)) (cs : List Value) (hc : w.rangeAt b f cs) {d : TypeDesc} (hu : P.underlying ty = some d) (hd : d.isRow = true) (hi : (P.info? ty).map (·.size) = some cs.length)
    (hK : wpList P ops Q rest (a.put o.dst (.agg cs.toArray)) w) : wpList P ops Q (o :: rest) a w :=
  wpList_step fun K hK' => by
    rw [if_pos hw]
    exact wp_load_mid ty x ho b f hx cs d hc hu hd hi (hK' _ _ hK)
theorem block_range {w : World} {g : Nat} {t : TypeId} {L : List Value} (h : Block w g t L.toArray) : w.rangeAt g 0 L := by
  intro j v hj
  rw [h.cell, List.getElem?_toArray, Nat.zero_add, hj]
theorem block_2 (w : World) (o : Obj) (t : TypeId) (cs : Array Value) : Block ((w.alloc o).alloc (.cells cs t)) (w.heap.size + 1) t cs := by
  have := Block.new (w.alloc o) t cs
  rwa [show (w.alloc o).heap.size = w.heap.size + 1 by simp] at this
theorem below_2 (w : World) (o p : Obj) : Below w.heap.size w ((w.alloc o).alloc p) := ((Below.refl _ _).alloc (Nat.le_refl _) _).alloc (by simp) _
def zS13 : Array Value := #[.slice none 0 0, .int .i64 0, .slice none 0 0, .int .i64 0, .int .i64 0]
theorem sC_one (AL : Option Addr) (nL cL : Nat) (p : Int) (Ao : Option Addr) (no co : Nat) (most e : Int) : ∀ u ∈ (sC AL nL cL p Ao no co most e).toList, u.oneCell' = true := by
  intro u hu
  unfold sC at hu
  simp only [List.mem_cons, List.not_mem_nil, or_false] at hu
  rcases hu with rfl | rfl | rfl | rfl | rfl <;> rfl

theorem results_tmp_row {P : Program} {fn : Func} {p q : Tmp} {ty : TypeId} (h : fn.results = #[.tmp q, .cell p ty]) (tmps : Array Value) (w : World) (g : Nat) (t : TypeId) (cs : Array Value) (fr : Nat × Nat) (d : TypeDesc)
    (v : Value) (hq : tmps.getD q undef = v) (hp : tmps.getD p undef = .pointer (some ⟨g, 0, none⟩)) (hg : w.heap[g]? = some (.cells cs t fr))
    (hu : P.underlying ty = some d) (hd : (match d with | .struct _ | .array _ _ => true | _ => false) = true) (hi : (P.info? ty).map (·.size) = some cs.size) :
    (results fn tmps).run P w = .ok (.tuple #[v, .agg cs]) w := by
  have hp' : tmps[p]?.getD undef = .pointer (some ⟨g, 0, none⟩) := by simpa using hp
  have hq' : tmps[q]?.getD undef = v := by simpa using hq
  simp [results, h, hp', hq', asAddr, run_loadVar_row w g t ty cs fr d hg hu hd hi]
theorem results_tmp2_row {P : Program} {fn : Func} {p q r : Tmp} {ty : TypeId} (h : fn.results = #[.tmp q, .tmp r, .cell p ty]) (tmps : Array Value) (w : World) (g : Nat) (t : TypeId) (cs : Array Value) (fr : Nat × Nat) (d : TypeDesc)
    (v u : Value) (hq : tmps.getD q undef = v) (hr : tmps.getD r undef = u) (hp : tmps.getD p undef = .pointer (some ⟨g, 0, none⟩)) (hg : w.heap[g]? = some (.cells cs t fr))
    (hu : P.underlying ty = some d) (hd : (match d with | .struct _ | .array _ _ => true | _ => false) = true) (hi : (P.info? ty).map (·.size) = some cs.size) :
    (results fn tmps).run P w = .ok (.tuple #[v, u, .agg cs]) w := by
  have hp' : tmps[p]?.getD undef = .pointer (some ⟨g, 0, none⟩) := by simpa using hp
  have hq' : tmps[q]?.getD undef = v := by simpa using hq
  have hr' : tmps[r]?.getD undef = u := by simpa using hr
  simp [results, h, hp', hq', hr', asAddr, run_loadVar_row w g t ty cs fr d hg hu hd hi]

set_option maxRecDepth 100000 in
set_option maxHeartbeats 1600000 in
theorem fail_any (is : Bool) (E : Int) (AL : Option Addr) (nL cL : Nat) (p : Int) (Ao : Option Addr) (no co : Nat) (most e : Int) (w : World) :
    Calls Tryd.prog 17 #[.agg (sC AL nL cL p Ao no co most e), .bool is, .int .i64 E] w fun x w' => x = .returned (.agg (sC AL nL cL p Ao no co most (failE is E e))) ∧ Below w.heap.size w w' := by
  have B2 := Lib.hid (fun o p => below_2 w o p)
  unfold sC
  cases is with
  | false =>
    go_enter Tryd.func17, Tryd.ntmps17
    go_wp2
    exact bodyPost_ret (v := .agg (sC AL nL cL p Ao no co most e)) (results_cell_row rfl _ _ (w.heap.size + 1) 43 _ (0, 0) _ rfl (block_2 w _ _ _) Tryd.underlying43 rfl (by kernel_rfl)) rfl ⟨rfl, B2.out _ _⟩
  | true =>
    by_cases h : e = 0
    · subst h
      go_enter Tryd.func17, Tryd.ntmps17
      go_wp2
      exact bodyPost_ret (v := .agg (sC AL nL cL p Ao no co most E)) (results_cell_row rfl _ _ (w.heap.size + 1) 43 _ (0, 0) _ rfl (block_2 w _ _ _) Tryd.underlying43 rfl (by kernel_rfl)) rfl ⟨rfl, B2.out _ _⟩
    · have hb : (e == 0) = false := by rw [beq_eq_false_iff_ne]; exact h
      have hf : failE true E e = e := if_neg (fun c => h c.2)
      rw [hf]
      clear hf h
      go_enter Tryd.func17, Tryd.ntmps17
      go_wp2
      exact bodyPost_ret (v := .agg (sC AL nL cL p Ao no co most e)) (results_cell_row rfl _ _ (w.heap.size + 1) 43 _ (0, 0) _ rfl (block_2 w _ _ _) Tryd.underlying43 rfl (by kernel_rfl)) rfl ⟨rfl, B2.out _ _⟩

set_option maxRecDepth 100000 in
set_option maxHeartbeats 1600000 in
theorem get_idle (k : Int) (AL : Option Addr) (nL cL : Nat) (p : Int) (Ao : Option Addr) (no co : Nat) (most e : Int) (w : World) (he : e ≠ 0) :
    Calls Tryd.prog 24 #[.agg (sC AL nL cL p Ao no co most e), .int .i64 k] w fun x w' => x = .returned (.tuple #[.int .i64 0, .agg (sC AL nL cL p Ao no co most e)]) ∧ Below w.heap.size w w' := by
  have B2 := Lib.hid (fun o p => below_2 w o p)
  unfold sC
  have hb : (e == 0) = false := by rw [beq_eq_false_iff_ne]; exact he
  clear he
  go_enter Tryd.func24, Tryd.ntmps24
  go_wp2
  go_region
  all_goals go_wp2
  all_goals exact bodyPost_ret (v := .tuple #[.int .i64 0, .agg (sC AL nL cL p Ao no co most e)]) (results_tmp_row rfl _ _ (w.heap.size + 1) 43 _ (0, 0) _ _ rfl rfl (block_2 w _ _ _) Tryd.underlying43 rfl (by kernel_rfl)) rfl ⟨rfl, below_draws (B2.out _ _) _⟩

set_option maxRecDepth 100000 in
set_option maxHeartbeats 1600000 in
theorem get_miss (k : Nat) (AL : Option Addr) (nL cL p : Nat) (Ao : Option Addr) (no co : Nat) (most : Int) (w : World) (hk : k ≤ 1000) (hp : p ≤ nL) (hm : nL < p + k) :
    Calls Tryd.prog 24 #[.agg (sC AL nL cL p Ao no co most 0), .int .i64 k] w fun x w' => x = .returned (.tuple #[.int .i64 0, .agg (sC AL nL cL p Ao no co most 2)]) ∧ Below w.heap.size w w' := by
  have B2 := Lib.hid (fun o p => below_2 w o p)
  unfold sC
  have h1 : (nL : Int) - (p : Int) < (k : Int) := by omega
  have h2 : IntKind.i64.wrap ((nL : Int) - (p : Int)) = (nL : Int) - (p : Int) := IntWalk.i64_in _ (by omega)
  clear hm hk
  go_enter Tryd.func24, Tryd.ntmps24
  go_wp2
  go_region
  all_goals go_wp2
  all_goals exact bodyPost_ret (v := .tuple #[.int .i64 0, .agg (sC AL nL cL p Ao no co most 2)]) (results_tmp_row rfl _ _ (w.heap.size + 1) 43 _ (0, 0) _ _ rfl rfl (block_2 w _ _ _) Tryd.underlying43 rfl (by kernel_rfl)) rfl ⟨rfl, below_draws (B2.out _ _) _⟩

set_option maxRecDepth 100000 in
set_option maxHeartbeats 1600000 in
theorem get_ok (k : Nat) (b off : Nat) (bits : List Int) (cL p : Nat) (Ao : Option Addr) (no co : Nat) (most : Int) (w : World) (hk : k ≤ 32) (hn : bits.length ≤ 1000000) (hm : p + k ≤ bits.length) (hbit : Bit bits) (hc : bits.length ≤ cL)
    (hr : Holds w w.heap.size .u8 (some ⟨b, off, none⟩) bits) :
    Calls Tryd.prog 24 #[.agg (sC (some ⟨b, off, none⟩) bits.length cL p Ao no co most 0), .int .i64 k] w fun x w' => x = .returned (.tuple #[.int .i64 (val ((bits.drop p).take k)), .agg (sC (some ⟨b, off, none⟩) bits.length cL ((p : Int) + (k : Int)) Ao no co most 0)]) ∧ Below w.heap.size w w' := by
  have B2 := Lib.hid (fun o p => below_2 w o p)
  have hlen : ((bits.drop p).take k).length = k := by rw [List.length_take, List.length_drop]; omega
  have hbk : Bit ((bits.drop p).take k) := fun x hx => hbit x (List.mem_of_mem_drop (List.mem_of_mem_take hx))
  have hrs := hr.sub p k hm
  have GV := Lib.hid (fun W c (hb : Below w.heap.size w W) => value_any (some ⟨b, off + p, none⟩) ((bits.drop p).take k) c W (by omega) hbk ((hrs.below hb).more hb.size))
  have GV0 := Lib.hid (fun (h : cL ≤ p) W c (hb : Below w.heap.size w W) => value_any (some ⟨b, off, none⟩) ((bits.drop p).take k) c W (by omega) hbk (fun hx => absurd hx (by omega)))
  have h1 : ¬ (bits.length : Int) - (p : Int) < (k : Int) := by omega
  have h3 : ((p : Int) + (k : Int)) ≤ (bits.length : Int) := by omega
  have h4 : ((p : Int) + (k : Int)) ≤ (cL : Int) := by omega
  have h5 : (0 : Int) ≤ (p : Int) := by omega
  generalize hN : bits.length = nL at *
  have hvr := val_bd hbk
  rw [hlen] at hvr
  have hp2 : (2 : Int) ^ k ≤ 2 ^ 32 := p2_le hk
  rw [show (2 : Int) ^ 32 = 4294967296 by decide] at hp2
  have h6 : val ((bits.drop p).take k) < 4294967296 := by omega
  have h7 : 0 ≤ val ((bits.drop p).take k) := hvr.1
  rw [hlen] at GV GV0
  generalize val ((bits.drop p).take k) = x at *
  clear hlen hrs hr hm hbk hvr hp2
  unfold sC
  go_enter Tryd.func24, Tryd.ntmps24
  go_wp2_with fail
  case inl =>
    obtain rfl : cL = p := by omega
    with_reducible refine (GV0.out (Nat.le_refl _) _ _ (B2.out _ _)).mono ?_
    rintro e w1 ⟨rfl, rfl⟩
    go_wp2_with fail
    go_region
    all_goals go_wp2
    all_goals exact bodyPost_ret (v := .tuple #[.int .i64 x, .agg (sC (some ⟨b, off, none⟩) nL cL ((cL : Int) + (k : Int)) Ao no co most 0)]) (results_tmp_row rfl _ _ (w.heap.size + 1) 43 _ (0, 0) _ _ rfl rfl (block_2 w _ _ _) Tryd.underlying43 rfl (by kernel_rfl)) rfl ⟨rfl, below_draws (B2.out _ _) _⟩
  case inr =>
    with_reducible refine (GV.out _ _ (B2.out _ _)).mono ?_
    rintro e w1 ⟨rfl, rfl⟩
    go_wp2_with fail
    go_region
    all_goals go_wp2
    all_goals exact bodyPost_ret (v := .tuple #[.int .i64 x, .agg (sC (some ⟨b, off, none⟩) nL cL ((p : Int) + (k : Int)) Ao no co most 0)]) (results_tmp_row rfl _ _ (w.heap.size + 1) 43 _ (0, 0) _ _ rfl rfl (block_2 w _ _ _) Tryd.underlying43 rfl (by kernel_rfl)) rfl ⟨rfl, below_draws (B2.out _ _) _⟩
end Go.Proofs.YthflefdchgpbdaaDoor.Inf
