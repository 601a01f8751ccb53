/-
  Layer 13, inflate: the document's lengths ahead of a dynamic block: a contract. Conditions: as each theorem names.
-/
import Derived.Test.YthflefdchgpbdaaDoorMIrR
import Derived.Test.YthflefdchgpbdaaDoorMGIces25
import Derived.Test.YthflefdchgpbdaaDoorMInI
import Derived.StillTailTactics
import Derived.Deep.CutBlock
namespace Go.Proofs.YthflefdchgpbdaaDoor.Inf
open Go.ChangeShapes Go.WideShapes Go.ChangeAt Go.RowKit Go.Proofs.YthflefdchgpbdaaDoor.Kit Go.Proofs.YthflefdchgpbdaaDoor.Bits Go.Proofs.YthflefdchgpbdaaDoor.Huf Go.Proofs.YthflefdchgpbdaaDoor.Df

theorem Goes.any {α : Type} {b : List Int} {d d' : DS} {r : Res α} {x : α} (h : Goes b d r x d') (he : d'.e ≠ 0) (y : α) : Goes b d r y d' := .inr ⟨he, (h.no he).1, (h.no he).2.1, (h.no he).2.2⟩
theorem sb_start2 {w : World} {AL : Option Addr} {bits : List Int} {cL : Nat} {Ao : Option Addr} {no co : Nat} {most : Int} {d : DS} (r : Rx w AL bits cL) :
    Sb w ((w.alloc (.cells #[.slice AL bits.length cL, .int .i64 (d.p : Int), .slice Ao no co, .int .i64 most, .int .i64 d.e] 43)).alloc (.cells #[.slice none 0 0, .int .i64 0, .slice none 0 0, .int .i64 0, .int .i64 0] 43)) AL bits cL Ao no co most (w.heap.size + 1) d :=
  Sb.of (below_2 w _ _) ((Block.new w _ _).alloc _) (block_2 w _ _ _) r (by omega)
def orderC : Array Value := (turnsL.map (Value.int .i64)).toArray
theorem orderC_get (i : Nat) (h : i < 19) : orderC[i]? = some (.int .i64 (turnsL.getD i 0)) := by
  have h2 : i < turnsL.length := h
  rw [orderC, List.getElem?_toArray, List.getElem?_map, List.getElem?_eq_getElem h2, List.getD_eq_getElem?_getD, List.getElem?_eq_getElem h2]
  rfl
theorem turns_nat (i : Nat) (h : i < 19) : ∃ t : Nat, turnsL.getD i 0 = (t : Int) ∧ t < 19 := by
  have := turns_lt i h
  exact ⟨(turnsL.getD i 0).toNat, by omega, by omega⟩
theorem holds_take {w : World} {n q : Nat} {k : IntKind} {A : Option Addr} {l : List Int} (h : Holds w n k A l) : Holds w n k A (l.take q) := by
  intro hl
  obtain ⟨b, off, e, hb, hc⟩ := h (by rw [List.length_take] at hl; omega)
  refine ⟨b, off, e, hb, fun j hj => ?_⟩
  have hj2 := hj
  rw [List.length_take] at hj2
  rw [List.getD_eq_getElem?_getD, List.getElem?_take_of_lt (by omega), ← List.getD_eq_getElem?_getD]
  exact hc j (by omega)
theorem holds_drop {w : World} {n q b off : Nat} {k : IntKind} {l : List Int} (h : Holds w n k (some ⟨b, off, none⟩) l) (hq : q < l.length) : Holds w n k (some ⟨b, off + q, none⟩) (l.drop q) := by
  intro _
  obtain ⟨b', off', e, hb, hc⟩ := h (by omega)
  injection e with e
  injection e with e1 e2
  subst e1 e2
  refine ⟨b, off + q, rfl, hb, fun j hj => ?_⟩
  rw [List.length_drop] at hj
  have := hc (q + j) (by omega)
  rw [List.getD_eq_getElem?_getD, List.getElem?_drop, ← List.getD_eq_getElem?_getD, Nat.add_assoc]
  exact this
theorem ok_of {is : Bool} {E : Int} {d d2 : DS} (h : failD is E d = d2) (h0 : E ≠ 0) (e : d2.e = 0) : is = false ∧ d2 = d := by
  unfold failD at h
  by_cases c : is = true ∧ d.e = 0
  · rw [if_pos c] at h
    subst h
    exact absurd e h0
  · rw [if_neg c] at h
    subst h
    cases is with
    | false => exact ⟨rfl, rfl⟩
    | true => exact absurd ⟨rfl, e⟩ c
theorem octets_part {l : List Int} {q : Nat} (h : Octets l) : Octets (l.take q) ∧ Octets (l.drop q) := ⟨fun z hz => h z (List.mem_of_mem_take hz), fun z hz => h z (List.mem_of_mem_drop hz)⟩
/-- A whole row is loaded, among the operations that only read. -/
theorem still_load_row9 {P : Program} {ops : Array Oper} {o : Oper} {a : Act} {w : World} {K : Act → Prop} {E : Prop}
    (hg : o.guard = none) (ty : TypeId) (x : Operand) (ho : o.op = .load ty x) (b f : Nat) (hx : a.eval x = .pointer (some ⟨b, f, none⟩)) (cs : List Value) (d : TypeDesc) (hc : w.rangeAt b f cs)
    (hu : P.underlying ty = some d) (hd : d.isRow = true) (hi : (P.info? ty).map (·.size) = some cs.length) (hK : K (a.put o.dst (.agg cs.toArray))) :
    if Region.wanted o (yielded ops a.tmps) = true then o.still P a w K else E := by
  have hw : Region.wanted o (yielded ops a.tmps) = true := by simp [Region.wanted, hg]
  rw [if_pos hw]
  unfold Oper.still execOp
  simp only [ho, hx, Instr.loadAt, Instr.sureAddr, Sem.run_bind, Sem.run_pure, Result.andThen_ok, run_loadVar_mid w b f ty cs d hc hu hd hi, Oper.stillUpon_value]
  exact hK
/-- How the document stands in the lengths of lengths. -/
def HdrOr (b : List Int) (N : Nat) (d : DS) (i : Nat) (acc : List Int) (di : DS) : Prop := di.p ≤ b.length ∧ ((d.e = 0 ∧ HdrAt b N d i acc di) ∨ (d.e ≠ 0 ∧ di = d))
theorem HdrOr.begin {b : List Int} {N : Nat} {d : DS} (hp : d.p ≤ b.length) : HdrOr b N d 0 (List.replicate 19 0) d := by
  by_cases e : d.e = 0
  · exact ⟨hp, .inl ⟨e, HdrAt.begin e hp⟩⟩
  · exact ⟨hp, .inr ⟨e, rfl⟩⟩
theorem HdrOr.next {b acc : List Int} {N i : Nat} {d di t : DS} {v : Int} (h : HdrOr b N d i acc di) (he : di.e = 0) (hi : i < N) (hv : numD 3 b di = (v, t)) : HdrOr b N d (i + 1) (acc.set (turnsL.getD i 0).toNat v) t := by
  have hle := numD_le (k := 3) (b := b) h.1
  rw [hv] at hle
  rcases h.2 with ⟨e, k⟩ | ⟨e, rfl⟩
  · exact ⟨hle.1, .inl ⟨e, k.next he hi hv⟩⟩
  · exact absurd he e
theorem HdrOr.done {b acc : List Int} {N i : Nat} {d di : DS} (h : HdrOr b N d i acc di) (hi : N ≤ i ∨ di.e ≠ 0) : (d.e = 0 → Goes b d (hdrG N 0 (List.replicate 19 0) b d.p) acc di) ∧ (d.e ≠ 0 → di = d) := by
  rcases h.2 with ⟨e, k⟩ | ⟨e, k⟩
  · exact ⟨fun _ => k.done hi, fun c => absurd e c⟩
  · exact ⟨fun c => absurd c e, fun _ => k⟩
/-- What stands behind the lengths of lengths. -/
structure DynAt (b : List Int) (d d4 d5 : DS) (an xn cn : Nat) (acc : List Int) : Prop where
  le : d5.p ≤ b.length
  len : acc.length = 19
  oct : Octets acc
  go : ∀ (l : List Int) (d6 d7 d8 : DS), failD (!mayB acc) 11 d5 = d6 → (d6.e = 0 → Goes b d6 (rowG acc (an + xn + 258) 320 [] b d6.p) l d7) → (d6.e ≠ 0 → d7 = d6) → failD (!mayB (l.take (an + 257)) || !mayB (l.drop (an + 257))) 11 d7 = d8 → Goes b d (dynG b d.p) (l.take (an + 257), l.drop (an + 257)) d8
  small : d5.e = 0 → an + 257 ≤ 286 ∧ xn + 1 ≤ 30
theorem DynAt.of {b acc : List Int} {d d1 d2 d3 d4 d5 : DS} {an xn cn : Nat} (he : d.e = 0) (hp : d.p ≤ b.length) (h1 : numD 5 b d = ((an : Int), d1)) (h2 : numD 5 b d1 = ((xn : Int), d2)) (h3 : numD 4 b d2 = ((cn : Int), d3)) (hc : cn < 16)
    (h4 : failD (decide (286 < (an : Int) + 257) || decide (30 < (xn : Int) + 1)) 11 d3 = d4) {i : Nat} (H : HdrOr b (cn + 4) d4 i acc d5) (hi : cn + 4 ≤ i ∨ d5.e ≠ 0) (hl : acc.length = 19) (ho : Octets acc) : DynAt b d d4 d5 an xn cn acc := by
  obtain ⟨k1, k2⟩ := H.done hi
  refine ⟨H.1, hl, ho, fun l d6 d7 d8 h6 h7 k7 h8 => ?_, fun e => ?_⟩
  · have e1 : ((an : Int) + 257).toNat = an + 257 := by omega
    have e2 : ((an : Int) + (xn : Int) + 258).toNat = an + xn + 258 := by omega
    have e3 : min ((cn : Int) + 4).toNat 19 = cn + 4 := by omega
    have := dyn_goes (l := l) (t := acc) (d5 := d5) (d6 := d6) (d7 := d7) (d8 := d8) he hp h1 h2 h3 h4 (by rw [e3]; exact k1) k2 h6 (by rw [e2]; exact h7) k7 (by rw [e1]; exact h8)
    rwa [e1] at this
  · have e4 : d4.e = 0 := by
      by_cases c : d4.e = 0
      · exact c
      · rw [k2 c] at e; exact absurd e c
    have := (ok_of h4 (by decide) e4).1
    rw [Bool.or_eq_false_iff, decide_eq_false_iff_not, decide_eq_false_iff_not] at this
    omega
/-- What dynamic answers. -/
def RDynTo (AL : Option Addr) (bits : List Int) (cL : Nat) (Ao : Option Addr) (no co : Nat) (most : Int) (d : DS) (w : World) (e : Ending) (w' : World) : Prop :=
  ∃ (A1 : Option Addr) (l1 : List Int) (c1 : Nat) (A2 : Option Addr) (l2 : List Int) (c2 : Nat) (d' : DS), e = .returned (.tuple #[.slice A1 l1.length c1, .slice A2 l2.length c2, .agg #[.slice AL bits.length cL, .int .i64 (d'.p : Int), .slice Ao no co, .int .i64 most, .int .i64 d'.e]]) ∧
    Below w.heap.size w w' ∧ Goes bits d (dynG bits d.p) (l1, l2) d' ∧ (d'.e = 0 → Holds w' w'.heap.size .u8 A1 l1 ∧ Holds w' w'.heap.size .u8 A2 l2 ∧ Octets l1 ∧ Octets l2 ∧ mayB l1 = true ∧ mayB l2 = true ∧ l1.length ≤ 286 ∧ l2.length ≤ 32 ∧ (∀ a, A1 = some a → w.heap.size ≤ a.block) ∧ (∀ a, A2 = some a → w.heap.size ≤ a.block))

theorem rdyn_err {AL : Option Addr} {bits : List Int} {cL : Nat} {Ao : Option Addr} {no co : Nat} {most : Int} {d d4 d5 d6 d7 : DS} {w W W' : World} {gz an xn cn : Nat} {acc l : List Int} (Y : DynAt bits d d4 d5 an xn cn acc) (h6 : failD (!mayB acc) 11 d5 = d6)
    (h7 : d6.e = 0 → Goes bits d6 (rowG acc (an + xn + 258) 320 [] bits d6.p) l d7) (k7 : d6.e ≠ 0 → d7 = d6) (he7 : d7.e ≠ 0) (J : Sb w W AL bits cL Ao no co most gz d7) (g : W.grownBy W' (some gz)) (A : Option Addr) :
    RDynTo AL bits cL Ao no co most d w (.returned (.tuple #[.slice A 19 19, .slice A 19 19, .agg #[.slice AL bits.length cL, .int .i64 (d7.p : Int), .slice Ao no co, .int .i64 most, .int .i64 d7.e]])) W' := by
  have hg := J.g
  have G := Y.go l d6 d7 d7 h6 h7 k7 (fail_err rfl he7)
  exact ⟨A, acc, 19, A, acc, 19, d7, by rw [Y.len], J.b.trans (below_of_grown g J.b.size (fun x hx => by injection hx with hx; omega)), G.any he7 _, fun e => absurd e he7⟩

theorem rdyn_ok {AL : Option Addr} {bits : List Int} {cL : Nat} {Ao : Option Addr} {no co : Nat} {most : Int} {d d4 d5 d6 d7 d8 : DS} {w W : World} {an xn cn : Nat} {acc l : List Int} (Y : DynAt bits d d4 d5 an xn cn acc) (h6 : failD (!mayB acc) 11 d5 = d6)
    (G7 : Goes bits d6 (rowG acc (an + xn + 258) 320 [] bits d6.p) l d7) (he6 : d6.e = 0) (h8 : failD (!mayB (l.take (an + 257)) || !mayB (l.drop (an + 257))) 11 d7 = d8) (hs : an + 257 ≤ 286 ∧ xn + 1 ≤ 30) (hl : l.length = an + xn + 258) (ho : Octets l) {g7 c : Nat}
    (o : Own W w.heap.size 5 .u8 (.slice (some ⟨g7, 0, none⟩) (an + xn + 258) c) l) (hb : Below w.heap.size w W) :
    RDynTo AL bits cL Ao no co most d w (.returned (.tuple #[.slice (some ⟨g7, 0, none⟩) (an + 257) c, .slice (some ⟨g7, an + 257, none⟩) (xn + 1) (c - (an + 257)), .agg #[.slice AL bits.length cL, .int .i64 (d8.p : Int), .slice Ao no co, .int .i64 most, .int .i64 d8.e]])) W := by
  have L1 : (l.take (an + 257)).length = an + 257 := by rw [List.length_take, hl]; omega
  have L2 : (l.drop (an + 257)).length = xn + 1 := by rw [List.length_drop, hl]; omega
  obtain ⟨A9, c9, e9, _, _, H⟩ := o.opened
  injection e9 with e1 e2 e3
  subst e1
  refine ⟨_, l.take (an + 257), c, _, l.drop (an + 257), c - (an + 257), d8, by rw [L1, L2], hb, Y.go l d6 d7 d8 h6 (fun _ => G7) (fun c => absurd he6 c) h8, fun e => ?_⟩
  have hm := (ok_of h8 (by decide) e).1
  rw [Bool.or_eq_false_iff] at hm
  refine ⟨holds_take H, ?_, (octets_part ho).1, (octets_part ho).2, by simpa using hm.1, by simpa using hm.2, by omega, by omega, fun a ha => by injection ha with ha; subst ha; exact (o.lt g7 rfl).1, fun a ha => by injection ha with ha; subst ha; exact (o.lt g7 rfl).1⟩
  have := holds_drop (q := an + 257) H (by omega)
  rwa [Nat.zero_add] at this

set_option maxRecDepth 100000 in
set_option maxHeartbeats 12800000 in
theorem rdynamic_any (AL : Option Addr) (bits : List Int) (cL : Nat) (Ao : Option Addr) (no co : Nat) (most : Int) (d : DS) (w : World) (he : d.e = 0) (hp : d.p ≤ bits.length) (r : Rx w AL bits cL) :
    Calls Tryd.prog 27 #[.agg #[.slice AL bits.length cL, .int .i64 (d.p : Int), .slice Ao no co, .int .i64 most, .int .i64 d.e]] w (RDynTo AL bits cL Ao no co most d w) := by
  have hB := r.b
  have hbd := r.m
  have J0 := sb_start2 (most := most) (Ao := Ao) (no := no) (co := co) (d := d) r
  obtain ⟨⟨v1, d1⟩, h1⟩ : ∃ r, numD 5 bits d = r := ⟨_, rfl⟩
  have q1 := numD_le (k := 5) (b := bits) (d := d) (hp)
  have b1 := numD_bd (k := 5) hB (d := d) (hp)
  rw [h1] at q1 b1
  simp only at q1 b1
  rw [show (2 : Int) ^ 5 = 32 by decide] at b1
  obtain ⟨an, hv1⟩ := Int.eq_ofNat_of_zero_le b1.1
  subst hv1
  have han : an < 32 := by omega
  clear b1
  have G1 := Lib.hid (fun W R => by have := get_lit AL bits cL Ao no co most d W 5 R (by omega) (hp); rw [h1] at this; exact this)
  obtain ⟨⟨v2, d2⟩, h2⟩ : ∃ r, numD 5 bits d1 = r := ⟨_, rfl⟩
  have q2 := numD_le (k := 5) (b := bits) (d := d1) (q1.1)
  have b2 := numD_bd (k := 5) hB (d := d1) (q1.1)
  rw [h2] at q2 b2
  simp only at q2 b2
  rw [show (2 : Int) ^ 5 = 32 by decide] at b2
  obtain ⟨xn, hv2⟩ := Int.eq_ofNat_of_zero_le b2.1
  subst hv2
  have hxn : xn < 32 := by omega
  clear b2
  have G2 := Lib.hid (fun W R => by have := get_lit AL bits cL Ao no co most d1 W 5 R (by omega) (q1.1); rw [h2] at this; exact this)
  obtain ⟨⟨v3, d3⟩, h3⟩ : ∃ r, numD 4 bits d2 = r := ⟨_, rfl⟩
  have q3 := numD_le (k := 4) (b := bits) (d := d2) (q2.1)
  have b3 := numD_bd (k := 4) hB (d := d2) (q2.1)
  rw [h3] at q3 b3
  simp only at q3 b3
  rw [show (2 : Int) ^ 4 = 16 by decide] at b3
  obtain ⟨cn, hv3⟩ := Int.eq_ofNat_of_zero_le b3.1
  subst hv3
  have hcn : cn < 16 := by omega
  clear b3
  have G3 := Lib.hid (fun W R => by have := get_lit AL bits cL Ao no co most d2 W 4 R (by omega) (q2.1); rw [h3] at this; exact this)
  obtain ⟨d4, h4⟩ : ∃ d4, failD (decide (286 < (an : Int) + 257) || decide (30 < (xn : Int) + 1)) 11 d3 = d4 := ⟨_, rfl⟩
  have q4 := failD_le (decide (286 < (an : Int) + 257) || decide (30 < (xn : Int) + 1)) 11 d3
  rw [h4] at q4
  have hp4 : d4.p ≤ bits.length := by rw [q4.1]; exact q3.1
  have G4 := Lib.hid (fun W (is : Bool) (hi : is = (decide (286 < (an : Int) + 257) || decide (30 < (xn : Int) + 1))) => by
    have := refuse_lit AL bits cL Ao no co most d3 W is 11
    have e2 : failD is 11 d3 = d4 := by { rw [hi]; exact h4 }
    rw [e2] at this
    exact this)
  have HDY := Lib.hid (fun (acc : List Int) (i : Nat) (d5 : DS) (H : HdrOr bits (cn + 4) d4 i acc d5) (hi : cn + 4 ≤ i ∨ d5.e ≠ 0) (hl : acc.length = 19) (ho : Octets acc) => DynAt.of he hp h1 h2 h3 hcn h4 H hi hl ho)
  have HP4 := Lib.hid hp4
  clear h1 h2 h3 h4 q1 q2 q3 q4 he hp hp4 r
  go_enter Tryd.func27, Tryd.ntmps27
  go_upto_region 1 with fail
  generalize (World.alloc (World.alloc w (Obj.cells #[.slice AL bits.length cL, .int .i64 (d.p : Int), .slice Ao no co, .int .i64 most, .int .i64 d.e] 43)) (Obj.cells #[.slice none 0 0, .int .i64 0, .slice none 0 0, .int .i64 0, .int .i64 0] 43)) = w0 at *
  go_upto_region 2 with (first
    | (have _t := J0; refine wpList_load_midV (o := ⟨some 17, _, _, _, _, _⟩) (by rfl) _ _ rfl (w.heap.size) 0 rfl [.slice AL bits.length cL, .int .i64 (d.p : Int), .slice Ao no co, .int .i64 most, .int .i64 d.e] (block_range (L := [.slice AL bits.length cL, .int .i64 (d.p : Int), .slice Ao no co, .int .i64 most, .int .i64 d.e]) J0.x) Tryd.underlying43 rfl (by kernel_rfl) ?_; clear _t)
    | (have _t := J0; go_at_call 24; refine (G1.out _ J0.rx).mono ?_; rintro e w1x ⟨rfl, hbx⟩; have Jx := J0.below hbx; clear _t J0 hbx)
    | (have _t := Jx; refine wpList_store_blk rfl _ _ _ rfl (ds := [.slice AL bits.length cL, .int .i64 (d1.p : Int), .slice Ao no co, .int .i64 most, .int .i64 d1.e]) Jx.x rfl rfl rfl (by kernel_rfl) (by intro u hu; simp only [List.mem_cons, List.not_mem_nil, or_false] at hu; rcases hu with rfl | rfl | rfl | rfl | rfl <;> rfl) ?_; clear _t; intro w1 X9 g9; have J1 := Jx.set g9 X9; clear X9 g9 Jx))
  try simp only [Act.put]
  go_upto_region 3 with (first
    | (have _t := J1; refine wpList_load_midV (o := ⟨some 22, _, _, _, _, _⟩) (by rfl) _ _ rfl (w.heap.size) 0 rfl [.slice AL bits.length cL, .int .i64 (d1.p : Int), .slice Ao no co, .int .i64 most, .int .i64 d1.e] (block_range (L := [.slice AL bits.length cL, .int .i64 (d1.p : Int), .slice Ao no co, .int .i64 most, .int .i64 d1.e]) J1.x) Tryd.underlying43 rfl (by kernel_rfl) ?_; clear _t)
    | (have _t := J1; go_at_call 24; refine (G2.out _ J1.rx).mono ?_; rintro e w2x ⟨rfl, hbx⟩; have Jx := J1.below hbx; clear _t J1 hbx)
    | (have _t := Jx; refine wpList_store_blk rfl _ _ _ rfl (ds := [.slice AL bits.length cL, .int .i64 (d2.p : Int), .slice Ao no co, .int .i64 most, .int .i64 d2.e]) Jx.x rfl rfl rfl (by kernel_rfl) (by intro u hu; simp only [List.mem_cons, List.not_mem_nil, or_false] at hu; rcases hu with rfl | rfl | rfl | rfl | rfl <;> rfl) ?_; clear _t; intro w2 X9 g9; have J2 := Jx.set g9 X9; clear X9 g9 Jx))
  try simp only [Act.put]
  go_upto_region 4 with (first
    | (have _t := J2; refine wpList_load_midV (o := ⟨some 27, _, _, _, _, _⟩) (by rfl) _ _ rfl (w.heap.size) 0 rfl [.slice AL bits.length cL, .int .i64 (d2.p : Int), .slice Ao no co, .int .i64 most, .int .i64 d2.e] (block_range (L := [.slice AL bits.length cL, .int .i64 (d2.p : Int), .slice Ao no co, .int .i64 most, .int .i64 d2.e]) J2.x) Tryd.underlying43 rfl (by kernel_rfl) ?_; clear _t)
    | (have _t := J2; go_at_call 24; refine (G3.out _ J2.rx).mono ?_; rintro e w3x ⟨rfl, hbx⟩; have Jx := J2.below hbx; clear _t J2 hbx)
    | (have _t := Jx; refine wpList_store_blk rfl _ _ _ rfl (ds := [.slice AL bits.length cL, .int .i64 (d3.p : Int), .slice Ao no co, .int .i64 most, .int .i64 d3.e]) Jx.x rfl rfl rfl (by kernel_rfl) (by intro u hu; simp only [List.mem_cons, List.not_mem_nil, or_false] at hu; rcases hu with rfl | rfl | rfl | rfl | rfl <;> rfl) ?_; clear _t; intro w3 X9 g9; have J3 := Jx.set g9 X9; clear X9 g9 Jx))
  try simp only [Act.put]
  clear G1 G2 G3
  go_cut [39] from 31 to 40 (fun _ wx => Sb w wx AL bits cL Ao no co most (w.heap.size + 1) d4)
  case first =>
    by_cases p1 : (286 : Int) < (an : Int) + 257
    · have p2 : decide ((286 : Int) < (an : Int) + 257) = true := decide_eq_true p1
      have p3 := Lib.hid p2
      go_wp2_with (first
        | (have _t := J3; refine wpList_load_midV (o := ⟨some 31, _, _, _, _, _⟩) (by rfl) _ _ rfl (w.heap.size) 0 rfl [.slice AL bits.length cL, .int .i64 (d3.p : Int), .slice Ao no co, .int .i64 most, .int .i64 d3.e] (block_range (L := [.slice AL bits.length cL, .int .i64 (d3.p : Int), .slice Ao no co, .int .i64 most, .int .i64 d3.e]) J3.x) Tryd.underlying43 rfl (by kernel_rfl) ?_; clear _t)
        | (have _t := J3; go_at_call 17; refine (G4.out _ _ (by rw [p3.out]; first | rfl | simp)).mono ?_; rintro e w4x ⟨rfl, hbx⟩; have Jx := J3.below hbx; clear _t J3 hbx)
        | (have _t := Jx; refine wpList_store_blk rfl _ _ _ rfl (ds := [.slice AL bits.length cL, .int .i64 (d4.p : Int), .slice Ao no co, .int .i64 most, .int .i64 d4.e]) Jx.x rfl rfl rfl (by kernel_rfl) (by intro u hu; simp only [List.mem_cons, List.not_mem_nil, or_false] at hu; rcases hu with rfl | rfl | rfl | rfl | rfl <;> rfl) ?_; clear _t; intro w4 X9 g9; have J4 := Jx.set g9 X9; clear X9 g9 Jx))
      try simp only [Act.put]
      go_meet
      exact J4
    · have p2 : decide ((286 : Int) < (an : Int) + 257) = false := decide_eq_false p1
      have p3 := Lib.hid p2
      go_wp2_with (first
        | (have _t := J3; refine wpList_load_midV (o := ⟨some 31, _, _, _, _, _⟩) (by rfl) _ _ rfl (w.heap.size) 0 rfl [.slice AL bits.length cL, .int .i64 (d3.p : Int), .slice Ao no co, .int .i64 most, .int .i64 d3.e] (block_range (L := [.slice AL bits.length cL, .int .i64 (d3.p : Int), .slice Ao no co, .int .i64 most, .int .i64 d3.e]) J3.x) Tryd.underlying43 rfl (by kernel_rfl) ?_; clear _t)
        | (have _t := J3; go_at_call 17; refine (G4.out _ _ (by rw [p3.out]; first | rfl | simp)).mono ?_; rintro e w4x ⟨rfl, hbx⟩; have Jx := J3.below hbx; clear _t J3 hbx)
        | (have _t := Jx; refine wpList_store_blk rfl _ _ _ rfl (ds := [.slice AL bits.length cL, .int .i64 (d4.p : Int), .slice Ao no co, .int .i64 most, .int .i64 d4.e]) Jx.x rfl rfl rfl (by kernel_rfl) (by intro u hu; simp only [List.mem_cons, List.not_mem_nil, or_false] at hu; rcases hu with rfl | rfl | rfl | rfl | rfl <;> rfl) ?_; clear _t; intro w4 X9 g9; have J4 := Jx.set g9 X9; clear X9 g9 Jx))
      try simp only [Act.put]
      go_meet
      exact J4
  case rest =>
    have J4 := hcut
    clear hcut J3 G4
    go_upto_region 6 with fail
    have O4 : Block (World.alloc wc (.cells orderC 3)) wc.heap.size 3 orderC := Block.new wc _ _
    have J5 := J4.alloc (.cells orderC 3)
    have hgo := J4.lt
    have hws : (World.alloc wc (.cells orderC 3)).heap.size = wc.heap.size + 1 := by simp
    change Code.wp _ _ _ _ (World.alloc wc (.cells orderC 3))
    generalize World.alloc wc (.cells orderC 3) = w5 at *
    generalize wc.heap.size = go at *
    clear J4
    go_upto_region 7 with (at_make; refine wpList_make_ints _ rfl _ _ _ rfl elem8 19 19 rfl rfl rfl rfl (Nat.le_refl _) (by omega) ?_; intro w6 O6 b6 s6)
    have J6 := J5.below b6
    have OB := O4.below b6 O4.lt
    have hg5 := J5.b.size
    rw [hws] at O6 hg5
    try rw [hws]
    obtain ⟨gl, hgl⟩ : ∃ gl, go + 1 = gl := ⟨_, rfl⟩
    rw [hgl] at O6 hg5
    try rw [hgl]
    have o6 := O6.mono hg5
    have hgg : w.heap.size < go ∧ w.heap.size + 1 < go ∧ go < gl := by omega
    clear O6 J5 O4 b6 s6 hgo hws hgl w5 hg5
    go_upto_block 0 with fail
    go_cut [10] from 10 to 67 (fun _ wx => ∃ (acc : List Int) (d5 : DS), DynAt bits d d4 d5 an xn cn acc ∧ Own wx w.heap.size 5 .u8 (.slice (some ⟨gl, 0, none⟩) 19 19) acc ∧ Sb w wx AL bits cL Ao no co most (w.heap.size + 1) d5)
    case first =>
      go_wp2_with fail
      go_loopw [10] (fun s wr => ∃ (i : Nat) (acc : List Int) (di : DS), s = .int .i64 i ∧ i ≤ cn + 4 ∧ HdrOr bits (cn + 4) d4 i acc di ∧ acc.length = 19 ∧ Octets acc ∧ Own wr w.heap.size 5 .u8 (.slice (some ⟨gl, 0, none⟩) 19 19) acc ∧ Sb w wr AL bits cL Ao no co most (w.heap.size + 1) di ∧ Block wr go 3 orderC) (fun s _ => cn + 4 - (intOf s).toNat)
      case atStart => exact ⟨0, List.replicate 19 0, d4, rfl, Nat.zero_le _, HdrOr.begin HP4.out, List.length_replicate .., Octets.replicate (by omega) 19, o6, J6, OB⟩
      case round =>
        clear J6 OB o6
        obtain ⟨i, acc, di, rfl, hi, Y, hal, hoc, o, J, OB⟩ := hrel
        have k4 : World.cell? _ ⟨w.heap.size, 4, none⟩ = some (.int .i64 di.e) := J.x.cell 4
        by_cases hlt : i < cn + 4
        · have jlt : (i : Int) < (cn : Int) + 4 := by omega
          by_cases he : di.e = 0
          · have hpi := Y.1
            have b3 := numD_bd (k := 3) hB hpi
            obtain ⟨⟨v, t⟩, hv⟩ : ∃ r, numD 3 bits di = r := ⟨_, rfl⟩
            rw [hv] at b3
            simp only at b3
            rw [show (2 : Int) ^ 3 = 8 by decide] at b3
            have GB := Lib.hid (fun W R => by have := get_lit AL bits cL Ao no co most di W 3 R (by omega) hpi; rw [hv] at this; exact this)
            obtain ⟨tn, htn, ht19⟩ := turns_nat i (by omega)
            have yn := Y.next he hlt hv
            rw [htn, Int.toNat_natCast] at yn
            have HYN := Lib.hid yn
            have hcl := orderC_get i (by omega)
            rw [htn] at hcl
            have HCL := Lib.hid hcl
            have HAL := Lib.hid hal
            have HOC := Lib.hid hoc
            have k5 := k4
            rw [he] at k5
            have v0 := b3.1
            have v8 := b3.2
            clear b3 hv yn hcl htn hal hoc Y he k4 hpi
            go_upto_region 10 with fail
            clear k5
            go_upto_region 11 with (first
              | (have _t := J; refine wpList_load_midV (o := ⟨some 55, _, _, _, _, _⟩) (by rfl) _ _ rfl (w.heap.size) 0 rfl [.slice AL bits.length cL, .int .i64 (di.p : Int), .slice Ao no co, .int .i64 most, .int .i64 di.e] (block_range (L := [.slice AL bits.length cL, .int .i64 (di.p : Int), .slice Ao no co, .int .i64 most, .int .i64 di.e]) J.x) Tryd.underlying43 rfl (by kernel_rfl) ?_; clear _t)
              | (have _t := J; go_at_call 24; refine (GB.out _ J.rx).mono ?_; rintro e w1x ⟨rfl, hbx⟩; have Jx := J.below hbx; have Ox := OB.below hbx OB.lt; have ox := o.below hbx; clear _t J OB o hbx)
              | (have _t := Jx; refine wpList_store_blk rfl _ _ _ rfl (ds := [.slice AL bits.length cL, .int .i64 (t.p : Int), .slice Ao no co, .int .i64 most, .int .i64 t.e]) (Block.new w1x 43 #[.slice none 0 0, .int .i64 0, .slice none 0 0, .int .i64 0, .int .i64 0]) rfl rfl rfl (by kernel_rfl) (by intro u hu; simp only [List.mem_cons, List.not_mem_nil, or_false] at hu; rcases hu with rfl | rfl | rfl | rfl | rfl <;> rfl) ?_; clear _t; intro w2 X9 g9; have kk := Jx.lt; have ko := Ox.lt; have J2 := Jx.fresh g9; have O2 := (Ox.alloc (.cells #[.slice none 0 0, .int .i64 0, .slice none 0 0, .int .i64 0, .int .i64 0] 43)).grown g9 (by intro h; injection h with h; omega); have o2 := (ox.alloc (.cells #[.slice none 0 0, .int .i64 0, .slice none 0 0, .int .i64 0, .int .i64 0] 43)).kept g9 (.inr (fun e => by have := (ox.lt _ e).2; omega)); have X2 := X9; clear X9 g9 Jx Ox ox))
            try simp only [Act.put]
            go_upto_region 12 with (first
              | (have _t := X2; refine wpList_load_midV (o := ⟨some 59, _, _, _, _, _⟩) (by rfl) _ _ rfl (w1x.heap.size) 0 rfl [.slice AL bits.length cL, .int .i64 (t.p : Int), .slice Ao no co, .int .i64 most, .int .i64 t.e] (block_range (L := [.slice AL bits.length cL, .int .i64 (t.p : Int), .slice Ao no co, .int .i64 most, .int .i64 t.e]) X2) Tryd.underlying43 rfl (by kernel_rfl) ?_; clear _t)
              | (have _t := X2; refine wpList_store_blk rfl _ _ _ rfl (ds := [.slice AL bits.length cL, .int .i64 (t.p : Int), .slice Ao no co, .int .i64 most, .int .i64 t.e]) J2.x rfl rfl rfl (by kernel_rfl) (by intro u hu; simp only [List.mem_cons, List.not_mem_nil, or_false] at hu; rcases hu with rfl | rfl | rfl | rfl | rfl <;> rfl) ?_; clear _t; intro w3 X9 g9; have J3 := J2.set g9 X9; have O3 := O2.grown g9 (by intro h; injection h with h; omega); have o3 := o2.kept g9 (.inr (o2.ne_block J2.x (by decide))); clear X9 g9 J2 O2 o2 X2))
            try simp only [Act.put]
            have y0 : w3.cell? ⟨go, i, none⟩ = some (.int .i64 (tn : Int)) := (O3.cell i).trans HCL.out
            have kk8 := o3.cellAt HAL.out.symm (i := tn) (by rw [HAL.out]; omega)
            have kf8 := o3.frozenAt HAL.out.symm tn
            have i0 : (0 : Int) ≤ (i : Int) := by omega
            have i19 : (i : Int) < 19 := by omega
            have t0 : (0 : Int) ≤ (tn : Int) := by omega
            have t19 : (tn : Int) < 19 := by omega
            go_wp2_with fail
            go_roundw
            case rel =>
              have os := o3.stored HAL.out.symm tn v
              refine ⟨i + 1, acc.set tn v, t, by go_num, by omega, HYN.out, by rw [List.length_set]; exact HAL.out, fun y hy => ?_, os.1, J3.far os.2 (by omega) (by omega) (by omega), O3.grown os.2 (by intro h; injection h with h; omega)⟩
              rcases List.mem_or_eq_of_mem_set hy with hy | rfl
              · exact HOC.out y hy
              · omega
            case measure => simp [intOf] <;> omega
          · have z : (di.e == 0) = false := by rw [beq_eq_false_iff_ne]; exact he
            have HDA := Lib.hid (HDY.out acc i di Y (.inr he) hal hoc)
            clear Y
            go_wp2_with fail
            go_meet
            exact ⟨acc, di, HDA.out, o, J⟩
        · have jlt : ¬ (i : Int) < (cn : Int) + 4 := by omega
          have HDA := Lib.hid (HDY.out acc i di Y (.inl (by omega)) hal hoc)
          clear Y
          go_wp2_with fail
          go_meet
          exact ⟨acc, di, HDA.out, o, J⟩
    case rest =>
      obtain ⟨acc, d5, Y, o, J⟩ := hcut
      clear J6 OB o6 HDY HP4
      obtain ⟨d6, h6⟩ : ∃ d6, failD (!mayB acc) 11 d5 = d6 := ⟨_, rfl⟩
      have q6 := failD_le (!mayB acc) 11 d5
      rw [h6] at q6
      have hal := Y.len
      have GM := Lib.hid (fun W (H : Holds W W.heap.size .u8 (some ⟨gl, 0, none⟩) acc) => by have := rmay_any (some ⟨gl, 0, none⟩) acc 19 W Y.oct (by omega) (by decide) H; rw [hal] at this; exact this.mono (fun e w9 h => (show e = _ ∧ w9 = W from ⟨h.1, h.2.symm⟩)))
      have GF := Lib.hid (fun W => by have := refuse_lit AL bits cL Ao no co most d5 W (!mayB acc) 11; rw [h6] at this; exact this)
      have HY := Lib.hid Y
      have H6 := Lib.hid h6
      have Q6 := Lib.hid q6
      have oD := o.drewN 1
      have HO : Holds wc.drew wc.drew.heap.size .u8 (some ⟨gl, 0, none⟩) acc := by obtain ⟨A, c, e, _, _, H⟩ := oD.opened; injection e with e1 e2 e3; subst e1; exact H
      have HHO := Lib.hid HO
      clear h6 q6 Y HO hal
      go_upto_region 13 with fail
      refine wp_region_still_tail 4 (by kernel_rfl) (by kernel_rfl) ?_
      simp only [List.take_succ_cons, List.take_zero, List.drop_succ_cons, List.drop_zero]
      refine wpStill_step (fun K9 hK9 => ?_)
      refine still_load_row9 (by rfl) 43 _ (by rfl) w.heap.size 0 (by rfl) [.slice AL bits.length cL, .int .i64 (d5.p : Int), .slice Ao no co, .int .i64 most, .int .i64 d5.e] _ (by exact block_range (L := [.slice AL bits.length cL, .int .i64 (d5.p : Int), .slice Ao no co, .int .i64 most, .int .i64 d5.e]) J.drew.x) Tryd.underlying43 (by rfl) (by kernel_rfl) ?_
      refine hK9 _ ?_
      clear hK9 K9
      try simp only [Act.put, List.setIfInBounds_toArray, List.set_cons_zero, List.set_cons_succ]
      still_step
      still_call (GM.out _ HHO.out)
      still_step
      refine wpStill_nil ?_
      change wpList _ _ _ _ _ wc.drew
      have JD := J.drew
      clear J o
      go_upto_region 14 with (first
        | (have _t := JD; go_at_call 17; refine (GF.out _).mono ?_; rintro e w6x ⟨rfl, hbx⟩; have Jx := JD.below hbx; have ox := oD.below hbx; clear _t JD oD hbx)
        | (have _t := Jx; refine wpList_store_blk rfl _ _ _ rfl (ds := [.slice AL bits.length cL, .int .i64 (d6.p : Int), .slice Ao no co, .int .i64 most, .int .i64 d6.e]) Jx.x rfl rfl rfl (by kernel_rfl) (by intro u hu; simp only [List.mem_cons, List.not_mem_nil, or_false] at hu; rcases hu with rfl | rfl | rfl | rfl | rfl <;> rfl) ?_; clear _t; intro w6 X9 g9; have J6 := Jx.set g9 X9; have o6 := ox.kept g9 (.inr (ox.ne_block Jx.x (by decide))); clear X9 g9 Jx ox))
      try simp only [Act.put]
      have k4 : w6.cell? ⟨w.heap.size, 4, none⟩ = some (.int .i64 d6.e) := J6.x.cell 4
      by_cases he6 : d6.e = 0
      · have HK := Lib.hid (ok_of H6.out (by decide) he6)
        have k5 := k4
        rw [he6] at k5
        have HE6 := Lib.hid he6
        clear k4 he6
        go_upto_region 16 with fail
        clear k5
        go_cut [13] from 79 to 89 (fun v wx => ∃ (A : Option Addr) (c : Nat) (l : List Int) (d7 : DS), v = .slice A l.length c ∧ Sb w wx AL bits cL Ao no co most (w.heap.size + 1) d7 ∧ Goes bits d6 (rowG acc (an + xn + 258) 320 [] bits d6.p) l d7 ∧ Own wx w.heap.size 5 .u8 (.slice A l.length c) l ∧ Octets l ∧ l.length ≤ c ∧ c ≤ maxLen ∧ (d7.e = 0 → l.length = an + xn + 258))
        case first =>
          have hsm := HY.out.small (by rw [← HK.out.2]; exact HE6.out)
          have GML := Lib.hid (fun W (H : Holds W W.heap.size .u8 (some ⟨gl, 0, none⟩) acc) => by have := made_any (some ⟨gl, 0, none⟩) acc 19 W HY.out.oct (by have := HK.out.1; simpa using this) H; rw [HY.out.len] at this; exact this)
          have GLN := Lib.hid (fun (A2 : Option Addr) (c2 : Nat) W (R : Rx W AL bits cL) (T : Cx9 W (some ⟨gl, 0, none⟩) acc A2) => by
            have := lens_any (some ⟨gl, 0, none⟩) A2 acc 19 c2 (an + xn + 258) AL bits cL Ao no co most d6 W HE6.out (by rw [HK.out.2]; exact HY.out.le) (by omega) (by rw [HY.out.len]; exact Nat.le_refl _) R T
            rw [HY.out.len, show ((an + xn + 258 : Nat) : Int) = (an : Int) + (xn : Int) + 258 by omega] at this
            exact this)
          have JD := J6.drew
          have oD := o6.drewN 1
          clear J6 o6
          refine wp_region_held_drew (S := (fun _ : World => True)) (by kernel_rfl) trivial (fun hS => ?_)
          refine wpAnyH_take (i := 1) (oi := ⟨some 81, _, _, _, _, _⟩) (v := .slice (some ⟨gl, 0, none⟩) 19 19) rfl (by kernel_rfl) (by kernel_rfl) (by kernel_rfl) (fun _ _ _ h => h) (Or.inl ⟨by rfl, fun W hW => by go_simp⟩) hS ?_
          try simp only [Act.put, List.setIfInBounds_toArray, List.set_cons_zero, List.set_cons_succ]
          refine wpAnyH_take (i := 3) (oi := ⟨some 83, _, _, _, _, _⟩) (v := .int .i64 (an : Int)) rfl (by kernel_rfl) (by kernel_rfl) (by kernel_rfl) (fun _ _ _ h => h) (Or.inl ⟨by rfl, fun W hW => by go_simp⟩) hS ?_
          try simp only [Act.put, List.setIfInBounds_toArray, List.set_cons_zero, List.set_cons_succ]
          refine wpAnyH_take (i := 4) (oi := ⟨some 84, _, _, _, _, _⟩) (v := .int .i64 (xn : Int)) rfl (by kernel_rfl) (by kernel_rfl) (by kernel_rfl) (fun _ _ _ h => h) (Or.inl ⟨by rfl, fun W hW => by go_simp⟩) hS ?_
          try simp only [Act.put, List.setIfInBounds_toArray, List.set_cons_zero, List.set_cons_succ]
          refine wpAnyH_take (i := 5) (oi := ⟨some 85, _, _, _, _, _⟩) (v := .int .i64 ((an : Int) + (xn : Int))) rfl (by kernel_rfl) (by kernel_rfl) (by kernel_rfl) (fun _ _ _ h => h) (Or.inl ⟨by rfl, fun W hW => by go_simp; exact IntWalk.i64_in _ (by omega)⟩) hS ?_
          try simp only [Act.put, List.setIfInBounds_toArray, List.set_cons_zero, List.set_cons_succ]
          refine wpAnyH_take (i := 6) (oi := ⟨some 86, _, _, _, _, _⟩) (v := .int .i64 ((an : Int) + (xn : Int) + 258)) rfl (by kernel_rfl) (by kernel_rfl) (by kernel_rfl) (fun _ _ _ h => h) (Or.inl ⟨by rfl, fun W hW => by go_simp; exact IntWalk.i64_in _ (by omega)⟩) hS ?_
          try simp only [Act.put, List.setIfInBounds_toArray, List.set_cons_zero, List.set_cons_succ]
          refine wpAnyH_ready (rs := [0, 2]) (by kernel_rfl) (by simp) ?_
          refine AllReadyH.cons rfl (fun K hK => ?_) (AllReadyH.cons rfl (fun K hK => ?_) AllReadyH.nil)
          case' refine_1 =>
            refine step_of_list (by simp [Region.wanted]) fun Q9 hn9 => ?_
            refine wpList_load_midV (o := ⟨some 80, _, _, _, _, _⟩) (by rfl) _ _ rfl (w.heap.size) 0 rfl [.slice AL bits.length cL, .int .i64 (d6.p : Int), .slice Ao no co, .int .i64 most, .int .i64 d6.e] (block_range (L := [.slice AL bits.length cL, .int .i64 (d6.p : Int), .slice Ao no co, .int .i64 most, .int .i64 d6.e]) JD.x) Tryd.underlying43 rfl (by kernel_rfl) ?_
            refine hn9 _ _ ?_
            clear hn9 Q9
            change K (Act.put _ (some 80) _) _
            refine hK.out _ _ trivial (fun hS => ?_)
            clear hK K
            try simp only [Act.put, List.setIfInBounds_toArray, List.set_cons_zero, List.set_cons_succ]
            refine wpAnyH_ready (rs := [2]) (by kernel_rfl) (by simp) ?_
            refine AllReadyH.cons rfl (fun K hK => ?_) AllReadyH.nil
            go_simp
            go_at_call 29
            refine (GML.out _ (by obtain ⟨A, c, e, _, _, H⟩ := oD.opened; injection e with e1 e2 e3; subst e1; exact H)).mono ?_
            rintro e wm ⟨A2, c2, rfl, T, hbx⟩
            have Jm := JD.below hbx
            clear hbx oD
            try simp only [cC]
            rw [HY.out.len]
            refine hK.out _ _ trivial (fun hS => ?_)
            clear hK K
            try simp only [Act.put, List.setIfInBounds_toArray, List.set_cons_zero, List.set_cons_succ]
          case' refine_2 =>
            go_simp
            go_at_call 29
            refine (GML.out _ (by obtain ⟨A, c, e, _, _, H⟩ := oD.opened; injection e with e1 e2 e3; subst e1; exact H)).mono ?_
            rintro e wm ⟨A2, c2, rfl, T, hbx⟩
            have Jm := JD.below hbx
            clear hbx oD
            try simp only [cC]
            rw [HY.out.len]
            refine hK.out _ _ trivial (fun hS => ?_)
            clear hK K
            try simp only [Act.put, List.setIfInBounds_toArray, List.set_cons_zero, List.set_cons_succ]
            refine wpAnyH_ready (rs := [0]) (by kernel_rfl) (by simp) ?_
            refine AllReadyH.cons rfl (fun K hK => ?_) AllReadyH.nil
            refine step_of_list (by simp [Region.wanted]) fun Q9 hn9 => ?_
            refine wpList_load_midV (o := ⟨some 80, _, _, _, _, _⟩) (by rfl) _ _ rfl (w.heap.size) 0 rfl [.slice AL bits.length cL, .int .i64 (d6.p : Int), .slice Ao no co, .int .i64 most, .int .i64 d6.e] (block_range (L := [.slice AL bits.length cL, .int .i64 (d6.p : Int), .slice Ao no co, .int .i64 most, .int .i64 d6.e]) Jm.x) Tryd.underlying43 rfl (by kernel_rfl) ?_
            refine hn9 _ _ ?_
            clear hn9 Q9
            change K (Act.put _ (some 80) _) _
            refine hK.out _ _ trivial (fun hS => ?_)
            clear hK K
            try simp only [Act.put, List.setIfInBounds_toArray, List.set_cons_zero, List.set_cons_succ]
          all_goals
            refine wpAnyH_ready (rs := [7]) (by kernel_rfl) (by simp) ?_
            refine AllReadyH.cons rfl (fun K hK => ?_) AllReadyH.nil
            go_simp
            go_at_call 39
            refine (GLN.out A2 c2 _ Jm.rx T).mono ?_
            rintro e wl ⟨A, c, l, d7, rfl, G7, o7, ho7, hc7, hcm7, hl7, hm7, hb7⟩
            have J7 := Jm.below hb7
            have o7 := o7.mono Jm.b.size
            clear Jm hb7 T
            refine hK.out _ _ trivial (fun hS => ?_)
            clear hK K
            try simp only [Act.put, List.setIfInBounds_toArray, List.set_cons_zero, List.set_cons_succ]
            refine wpAnyH_take (i := 8) (oi := ⟨some 79, _, _, _, _, _⟩) (v := .tuple #[.slice A l.length c, .agg #[.slice AL bits.length cL, .int .i64 (d7.p : Int), .slice Ao no co, .int .i64 most, .int .i64 d7.e]]) rfl (by kernel_rfl) (by kernel_rfl) (by kernel_rfl) (fun _ _ _ h => h) (Or.inl ⟨by rfl, fun W hW => by go_simp⟩) hS ?_
            try simp only [Act.put, List.setIfInBounds_toArray, List.set_cons_zero, List.set_cons_succ]
            refine wpAnyH_take (i := 9) (oi := ⟨some 88, _, _, _, _, _⟩) (v := .slice A l.length c) rfl (by kernel_rfl) (by kernel_rfl) (by kernel_rfl) (fun _ _ _ h => h) (Or.inl ⟨by rfl, fun W hW => by go_simp⟩) hS ?_
            try simp only [Act.put, List.setIfInBounds_toArray, List.set_cons_zero, List.set_cons_succ]
            refine wpAnyH_take (i := 10) (oi := ⟨some 89, _, _, _, _, _⟩) (v := .agg #[.slice AL bits.length cL, .int .i64 (d7.p : Int), .slice Ao no co, .int .i64 most, .int .i64 d7.e]) rfl (by kernel_rfl) (by kernel_rfl) (by kernel_rfl) (fun _ _ _ h => h) (Or.inl ⟨by rfl, fun W hW => by go_simp⟩) hS ?_
            try simp only [Act.put, List.setIfInBounds_toArray, List.set_cons_zero, List.set_cons_succ]
            refine wpAnyH_take (i := 11) (oi := ⟨some 13, _, _, _, _, _⟩) (v := .slice A l.length c) rfl (by kernel_rfl) (by kernel_rfl) (by kernel_rfl) (fun _ _ _ h => h) (Or.inl ⟨by rfl, fun W hW => by go_simp⟩) hS ?_
            try simp only [Act.put, List.setIfInBounds_toArray, List.set_cons_zero, List.set_cons_succ]
            refine wpAnyH_ready (rs := [12]) (by kernel_rfl) (by simp) ?_
            refine AllReadyH.cons rfl (fun K hK => ?_) AllReadyH.nil
            refine step_store_blk rfl _ _ _ rfl (ds := [.slice AL bits.length cL, .int .i64 (d7.p : Int), .slice Ao no co, .int .i64 most, .int .i64 d7.e]) J7.x rfl rfl rfl (by kernel_rfl) (by intro u hu; simp only [List.mem_cons, List.not_mem_nil, or_false] at hu; rcases hu with rfl | rfl | rfl | rfl | rfl <;> rfl) ?_
            intro w8 X9 g9
            have J8 := J7.set g9 X9
            have o8 := o7.kept g9 (.inr (o7.ne_block J7.x (by decide)))
            refine hK.out _ _ trivial (fun hS => ?_)
            clear hK K
            try simp only [Act.put, List.setIfInBounds_toArray, List.set_cons_zero, List.set_cons_succ]
            refine wpAnyH_done (by kernel_rfl) ?_ _
            go_wp2_with fail
            go_meet
            exact ⟨A, c, l, d7, rfl, J8, G7, o8, ho7, hc7, hcm7, hl7⟩
        case rest =>
          obtain ⟨A, c, l, d7, rfl, J7, G7, o7, ho7, hc7, hcm7, hl7⟩ := hcut
          clear J6 o6
          have k4 : wc.cell? ⟨w.heap.size, 4, none⟩ = some (.int .i64 d7.e) := J7.x.cell 4
          by_cases he7 : d7.e = 0
          · have hl := hl7 he7
            have k5 := k4
            rw [he7] at k5
            have HE7 := Lib.hid he7
            clear k4 he7 hl7
            have hsm := HY.out.small (by rw [← HK.out.2]; exact HE6.out)
            obtain ⟨g7, cap7, eqv, _, _, _, _⟩ := o7.form (by omega)
            injection eqv with q1 q2 q3
            subst q1 q3
            clear q2
            have HLL := Lib.hid hl
            rw [hl] at hc7
            rw [hl]
            clear hl
            have cc1 : (an : Int) + 257 ≤ (c : Int) := by omega
            have cc2 : ¬ c = an + 257 := by omega
            go_upto_region 19 with fail
            clear k5
            go_upto_region 21 with fail
            rw [show an + xn + 258 - (an + 257) = xn + 1 by omega]
            obtain ⟨d8, h8⟩ : ∃ d8, failD (!mayB (l.take (an + 257)) || !mayB (l.drop (an + 257))) 11 d7 = d8 := ⟨_, rfl⟩
            have L1 : (l.take (an + 257)).length = an + 257 := by rw [List.length_take, HLL.out]; omega
            have L2 : (l.drop (an + 257)).length = xn + 1 := by rw [List.length_drop, HLL.out]; omega
            have GM1 := Lib.hid (fun W (H : Holds W W.heap.size .u8 (some ⟨g7, 0, none⟩) l) => by have := rmay_any (some ⟨g7, 0, none⟩) (l.take (an + 257)) c W (octets_part ho7).1 (by rw [L1]; omega) hcm7 (holds_take H); rw [L1] at this; exact this)
            have GM2 := Lib.hid (fun W (H : Holds W W.heap.size .u8 (some ⟨g7, 0, none⟩) l) => by have := rmay_any (some ⟨g7, 0 + (an + 257), none⟩) (l.drop (an + 257)) (c - (an + 257)) W (octets_part ho7).2 (by rw [L2]; omega) (by omega) (holds_drop H (by rw [HLL.out]; omega)); rw [L2, Nat.zero_add] at this; exact this)
            have GF8 := Lib.hid (fun W (is : Bool) (hi : is = (!mayB (l.take (an + 257)) || !mayB (l.drop (an + 257)))) => by
              have := refuse_lit AL bits cL Ao no co most d7 W is 11
              have e2 : failD is 11 d7 = d8 := by { rw [hi]; exact h8 }
              rw [e2] at this
              exact this)
            have FIN := Lib.hid (fun (W : World) (o : Own W w.heap.size 5 .u8 (.slice (some ⟨g7, 0, none⟩) (an + xn + 258) c) l) (hb : Below w.heap.size w W) => rdyn_ok (AL := AL) (cL := cL) (Ao := Ao) (no := no) (co := co) (most := most) HY.out H6.out G7 HE6.out h8 hsm HLL.out ho7 o hb)
            obtain ⟨m1, hm1⟩ : ∃ m, mayB (l.take (an + 257)) = m := ⟨_, rfl⟩
            obtain ⟨m2, hm2⟩ : ∃ m, mayB (l.drop (an + 257)) = m := ⟨_, rfl⟩
            rw [hm1, hm2] at GF8
            rw [hm1] at GM1
            rw [hm2] at GM2
            have JD := J7.drew
            have oD := o7.drewN 1
            rw [HLL.out] at oD
            have HHO : Holds wc.drew wc.drew.heap.size .u8 (some ⟨g7, 0, none⟩) l := by obtain ⟨A9, c9, e, _, _, H⟩ := oD.opened; injection e with e1 e2 e3; subst e1; exact H
            clear J7 o7 G7 h8 L1 L2 hm1 hm2 hsm
            cases m1
            case false =>
              refine wp_region_held_drew (S := (fun W => Block W w.heap.size 43 #[.slice AL bits.length cL, .int .i64 (d7.p : Int), .slice Ao no co, .int .i64 most, .int .i64 d7.e])) (by kernel_rfl) JD.x (fun hS => ?_)
              refine wpAnyH_take (i := 0) (oi := ⟨some 104, _, _, _, _, _⟩) (v := .slice (some ⟨g7, 0, none⟩) (an + 257) c) rfl (by kernel_rfl) (by kernel_rfl) (by kernel_rfl) (fun _ _ _ h => h) (Or.inl ⟨by rfl, fun W hW => by go_simp⟩) hS ?_
              try simp only [Act.put, List.setIfInBounds_toArray, List.set_cons_zero, List.set_cons_succ]
              refine wpAnyH_take (i := 1) (oi := ⟨some 105, _, _, _, _, _⟩) (v := .slice (some ⟨g7, an + 257, none⟩) (xn + 1) (c - (an + 257))) rfl (by kernel_rfl) (by kernel_rfl) (by kernel_rfl) (fun _ _ _ h => h) (Or.inl ⟨by rfl, fun W hW => by go_simp⟩) hS ?_
              try simp only [Act.put, List.setIfInBounds_toArray, List.set_cons_zero, List.set_cons_succ]
              refine wpAnyH_take (i := 2) (oi := ⟨some 106, _, _, _, _, _⟩) (v := .agg #[.slice AL bits.length cL, .int .i64 (d7.p : Int), .slice Ao no co, .int .i64 most, .int .i64 d7.e]) rfl (by kernel_rfl) (by kernel_rfl) (by kernel_rfl) (fun _ _ _ h => h) (yieldsIf_load_mid (by rfl) _ _ rfl (w.heap.size) (0) rfl [.slice AL bits.length cL, .int .i64 (d7.p : Int), .slice Ao no co, .int .i64 most, .int .i64 d7.e] _ (fun W hW => block_range (L := [.slice AL bits.length cL, .int .i64 (d7.p : Int), .slice Ao no co, .int .i64 most, .int .i64 d7.e]) hW) Tryd.underlying43 rfl (by kernel_rfl)) hS ?_
              try simp only [Act.put, List.setIfInBounds_toArray, List.set_cons_zero, List.set_cons_succ]
              refine wpAnyH_take (i := 3) (oi := ⟨some 107, _, _, _, _, _⟩) (v := .slice (some ⟨g7, 0, none⟩) (an + 257) c) rfl (by kernel_rfl) (by kernel_rfl) (by kernel_rfl) (fun _ _ _ h => h) (Or.inl ⟨by rfl, fun W hW => by go_simp⟩) hS ?_
              try simp only [Act.put, List.setIfInBounds_toArray, List.set_cons_zero, List.set_cons_succ]
              refine wpAnyH_ready (rs := [4]) (by kernel_rfl) (by simp) ?_
              refine AllReadyH.cons rfl (fun K hK => ?_) AllReadyH.nil
              go_simp
              go_at_call 38
              refine (GM1.out _ HHO).mono ?_
              rintro e wq ⟨rfl, rfl⟩
              refine hK.out _ _ hS (fun hS => ?_)
              clear hK K
              try simp only [Act.put, List.setIfInBounds_toArray, List.set_cons_zero, List.set_cons_succ]
              refine wpAnyH_take (i := 5) (oi := ⟨some 109, _, _, _, _, _⟩) (v := .bool true) rfl (by kernel_rfl) (by kernel_rfl) (by kernel_rfl) (fun _ _ _ h => h) (Or.inl ⟨by rfl, fun W hW => by go_simp⟩) hS ?_
              try simp only [Act.put, List.setIfInBounds_toArray, List.set_cons_zero, List.set_cons_succ]
              refine wpAnyH_take (i := 6) (oi := ⟨some 110, _, _, _, _, _⟩) (v := .bool true) rfl (by kernel_rfl) (by kernel_rfl) (by kernel_rfl) (fun _ _ _ h => h) (Or.inl ⟨by rfl, fun W hW => by go_simp⟩) hS ?_
              try simp only [Act.put, List.setIfInBounds_toArray, List.set_cons_zero, List.set_cons_succ]
              refine wpAnyH_take (i := 7) (v := undef) rfl (by kernel_rfl) (by kernel_rfl) (by kernel_rfl) (fun _ _ _ h => h) (Or.inr ⟨by rfl, rfl⟩) hS ?_
              try simp only [Act.put, List.setIfInBounds_toArray, List.set_cons_zero, List.set_cons_succ]
              refine wpAnyH_ready (rs := [8]) (by kernel_rfl) (by simp) ?_
              refine AllReadyH.cons rfl (fun K hK => ?_) AllReadyH.nil
              go_simp
              refine hK.out _ _ hS (fun hS => ?_)
              clear hK K
              try simp only [Act.put, List.setIfInBounds_toArray, List.set_cons_zero, List.set_cons_succ]
              refine wpAnyH_take (i := 9) (v := undef) rfl (by kernel_rfl) (by kernel_rfl) (by kernel_rfl) (fun _ _ _ h => h) (Or.inr ⟨by rfl, rfl⟩) hS ?_
              try simp only [Act.put, List.setIfInBounds_toArray, List.set_cons_zero, List.set_cons_succ]
              refine wpAnyH_take (i := 10) (oi := ⟨some 114, _, _, _, _, _⟩) (v := .bool true) rfl (by kernel_rfl) (by kernel_rfl) (by kernel_rfl) (fun _ _ _ h => h) (Or.inl ⟨by rfl, fun W hW => by go_simp⟩) hS ?_
              try simp only [Act.put, List.setIfInBounds_toArray, List.set_cons_zero, List.set_cons_succ]
              refine wpAnyH_ready (rs := [11]) (by kernel_rfl) (by simp) ?_
              refine AllReadyH.cons rfl (fun K hK => ?_) AllReadyH.nil
              go_simp
              go_at_call 17
              refine (GF8.out _ _ (by first | rfl | simp)).mono ?_
              rintro e wf ⟨rfl, hbx⟩
              have Jf := JD.below hbx
              have of := oD.below hbx
              clear hbx JD oD HHO
              refine hK.out _ _ Jf.x (fun hS => ?_)
              clear hK K
              try simp only [Act.put, List.setIfInBounds_toArray, List.set_cons_zero, List.set_cons_succ]
              refine wpAnyH_take (i := 12) (oi := ⟨some 2, _, _, _, _, _⟩) (v := .slice (some ⟨g7, 0, none⟩) (an + 257) c) rfl (by kernel_rfl) (by kernel_rfl) (by kernel_rfl) (fun _ _ _ h => h) (Or.inl ⟨by rfl, fun W hW => by go_simp⟩) hS ?_
              try simp only [Act.put, List.setIfInBounds_toArray, List.set_cons_zero, List.set_cons_succ]
              refine wpAnyH_take (i := 13) (oi := ⟨some 3, _, _, _, _, _⟩) (v := .slice (some ⟨g7, an + 257, none⟩) (xn + 1) (c - (an + 257))) rfl (by kernel_rfl) (by kernel_rfl) (by kernel_rfl) (fun _ _ _ h => h) (Or.inl ⟨by rfl, fun W hW => by go_simp⟩) hS ?_
              try simp only [Act.put, List.setIfInBounds_toArray, List.set_cons_zero, List.set_cons_succ]
              refine wpAnyH_ready (rs := [14]) (by kernel_rfl) (by simp) ?_
              refine AllReadyH.cons rfl (fun K hK => ?_) AllReadyH.nil
              refine step_store_blk rfl _ _ _ rfl (cs := #[.slice none 0 0, .int .i64 0, .slice none 0 0, .int .i64 0, .int .i64 0]) (ds := [.slice AL bits.length cL, .int .i64 (d8.p : Int), .slice Ao no co, .int .i64 most, .int .i64 d8.e]) (by exact Jf.z) rfl rfl rfl (by kernel_rfl) (by intro u hu; simp only [List.mem_cons, List.not_mem_nil, or_false] at hu; rcases hu with rfl | rfl | rfl | rfl | rfl <;> rfl) ?_
              intro w9 X9 g9
              have o9 := of.kept g9 (.inr (of.ne_block Jf.z (by decide)))
              have b9 : Below w.heap.size w w9 := Jf.b.trans (below_of_grown g9 Jf.b.size (fun x hx => by injection hx with hx; omega))
              refine hK.out _ _ (hS.grown g9 (by intro h; injection h with h; omega)) (fun hS => ?_)
              clear hK K
              try simp only [Act.put, List.setIfInBounds_toArray, List.set_cons_zero, List.set_cons_succ]
              refine wpAnyH_done (by kernel_rfl) ?_ _
              go_wp2_with fail
              exact bodyPost_ret (v := .tuple #[.slice (some ⟨g7, 0, none⟩) (an + 257) c, .slice (some ⟨g7, an + 257, none⟩) (xn + 1) (c - (an + 257)), .agg #[.slice AL bits.length cL, .int .i64 (d8.p : Int), .slice Ao no co, .int .i64 most, .int .i64 d8.e]]) (results_tmp2_row rfl _ _ (w.heap.size + 1) 43 _ (0, 0) _ _ _ rfl rfl rfl X9 Tryd.underlying43 rfl (by kernel_rfl)) rfl (FIN.out _ o9 b9)
            case true =>
              refine wp_region_held_drew (S := (fun W => Block W w.heap.size 43 #[.slice AL bits.length cL, .int .i64 (d7.p : Int), .slice Ao no co, .int .i64 most, .int .i64 d7.e])) (by kernel_rfl) JD.x (fun hS => ?_)
              refine wpAnyH_take (i := 0) (oi := ⟨some 104, _, _, _, _, _⟩) (v := .slice (some ⟨g7, 0, none⟩) (an + 257) c) rfl (by kernel_rfl) (by kernel_rfl) (by kernel_rfl) (fun _ _ _ h => h) (Or.inl ⟨by rfl, fun W hW => by go_simp⟩) hS ?_
              try simp only [Act.put, List.setIfInBounds_toArray, List.set_cons_zero, List.set_cons_succ]
              refine wpAnyH_take (i := 1) (oi := ⟨some 105, _, _, _, _, _⟩) (v := .slice (some ⟨g7, an + 257, none⟩) (xn + 1) (c - (an + 257))) rfl (by kernel_rfl) (by kernel_rfl) (by kernel_rfl) (fun _ _ _ h => h) (Or.inl ⟨by rfl, fun W hW => by go_simp⟩) hS ?_
              try simp only [Act.put, List.setIfInBounds_toArray, List.set_cons_zero, List.set_cons_succ]
              refine wpAnyH_take (i := 2) (oi := ⟨some 106, _, _, _, _, _⟩) (v := .agg #[.slice AL bits.length cL, .int .i64 (d7.p : Int), .slice Ao no co, .int .i64 most, .int .i64 d7.e]) rfl (by kernel_rfl) (by kernel_rfl) (by kernel_rfl) (fun _ _ _ h => h) (yieldsIf_load_mid (by rfl) _ _ rfl (w.heap.size) (0) rfl [.slice AL bits.length cL, .int .i64 (d7.p : Int), .slice Ao no co, .int .i64 most, .int .i64 d7.e] _ (fun W hW => block_range (L := [.slice AL bits.length cL, .int .i64 (d7.p : Int), .slice Ao no co, .int .i64 most, .int .i64 d7.e]) hW) Tryd.underlying43 rfl (by kernel_rfl)) hS ?_
              try simp only [Act.put, List.setIfInBounds_toArray, List.set_cons_zero, List.set_cons_succ]
              refine wpAnyH_take (i := 3) (oi := ⟨some 107, _, _, _, _, _⟩) (v := .slice (some ⟨g7, 0, none⟩) (an + 257) c) rfl (by kernel_rfl) (by kernel_rfl) (by kernel_rfl) (fun _ _ _ h => h) (Or.inl ⟨by rfl, fun W hW => by go_simp⟩) hS ?_
              try simp only [Act.put, List.setIfInBounds_toArray, List.set_cons_zero, List.set_cons_succ]
              refine wpAnyH_ready (rs := [4]) (by kernel_rfl) (by simp) ?_
              refine AllReadyH.cons rfl (fun K hK => ?_) AllReadyH.nil
              go_simp
              go_at_call 38
              refine (GM1.out _ HHO).mono ?_
              rintro e wq ⟨rfl, rfl⟩
              refine hK.out _ _ hS (fun hS => ?_)
              clear hK K
              try simp only [Act.put, List.setIfInBounds_toArray, List.set_cons_zero, List.set_cons_succ]
              refine wpAnyH_take (i := 5) (oi := ⟨some 109, _, _, _, _, _⟩) (v := .bool false) rfl (by kernel_rfl) (by kernel_rfl) (by kernel_rfl) (fun _ _ _ h => h) (Or.inl ⟨by rfl, fun W hW => by go_simp⟩) hS ?_
              try simp only [Act.put, List.setIfInBounds_toArray, List.set_cons_zero, List.set_cons_succ]
              refine wpAnyH_take (i := 6) (oi := ⟨some 110, _, _, _, _, _⟩) (v := .bool false) rfl (by kernel_rfl) (by kernel_rfl) (by kernel_rfl) (fun _ _ _ h => h) (Or.inl ⟨by rfl, fun W hW => by go_simp⟩) hS ?_
              try simp only [Act.put, List.setIfInBounds_toArray, List.set_cons_zero, List.set_cons_succ]
              refine wpAnyH_take (i := 7) (oi := ⟨some 111, _, _, _, _, _⟩) (v := .slice (some ⟨g7, an + 257, none⟩) (xn + 1) (c - (an + 257))) rfl (by kernel_rfl) (by kernel_rfl) (by kernel_rfl) (fun _ _ _ h => h) (Or.inl ⟨by rfl, fun W hW => by go_simp⟩) hS ?_
              try simp only [Act.put, List.setIfInBounds_toArray, List.set_cons_zero, List.set_cons_succ]
              refine wpAnyH_ready (rs := [8]) (by kernel_rfl) (by simp) ?_
              refine AllReadyH.cons rfl (fun K hK => ?_) AllReadyH.nil
              go_simp
              go_at_call 38
              refine (GM2.out _ HHO).mono ?_
              rintro e wq ⟨rfl, rfl⟩
              refine hK.out _ _ hS (fun hS => ?_)
              clear hK K
              try simp only [Act.put, List.setIfInBounds_toArray, List.set_cons_zero, List.set_cons_succ]
              refine wpAnyH_take (i := 9) (oi := ⟨some 113, _, _, _, _, _⟩) (v := .bool (!m2)) rfl (by kernel_rfl) (by kernel_rfl) (by kernel_rfl) (fun _ _ _ h => h) (Or.inl ⟨by rfl, fun W hW => by go_simp⟩) hS ?_
              try simp only [Act.put, List.setIfInBounds_toArray, List.set_cons_zero, List.set_cons_succ]
              refine wpAnyH_take (i := 10) (oi := ⟨some 114, _, _, _, _, _⟩) (v := .bool (!m2)) rfl (by kernel_rfl) (by kernel_rfl) (by kernel_rfl) (fun _ _ _ h => h) (Or.inl ⟨by rfl, fun W hW => by go_simp⟩) hS ?_
              try simp only [Act.put, List.setIfInBounds_toArray, List.set_cons_zero, List.set_cons_succ]
              refine wpAnyH_ready (rs := [11]) (by kernel_rfl) (by simp) ?_
              refine AllReadyH.cons rfl (fun K hK => ?_) AllReadyH.nil
              go_simp
              go_at_call 17
              refine (GF8.out _ _ (by first | rfl | simp)).mono ?_
              rintro e wf ⟨rfl, hbx⟩
              have Jf := JD.below hbx
              have of := oD.below hbx
              clear hbx JD oD HHO
              refine hK.out _ _ Jf.x (fun hS => ?_)
              clear hK K
              try simp only [Act.put, List.setIfInBounds_toArray, List.set_cons_zero, List.set_cons_succ]
              refine wpAnyH_take (i := 12) (oi := ⟨some 2, _, _, _, _, _⟩) (v := .slice (some ⟨g7, 0, none⟩) (an + 257) c) rfl (by kernel_rfl) (by kernel_rfl) (by kernel_rfl) (fun _ _ _ h => h) (Or.inl ⟨by rfl, fun W hW => by go_simp⟩) hS ?_
              try simp only [Act.put, List.setIfInBounds_toArray, List.set_cons_zero, List.set_cons_succ]
              refine wpAnyH_take (i := 13) (oi := ⟨some 3, _, _, _, _, _⟩) (v := .slice (some ⟨g7, an + 257, none⟩) (xn + 1) (c - (an + 257))) rfl (by kernel_rfl) (by kernel_rfl) (by kernel_rfl) (fun _ _ _ h => h) (Or.inl ⟨by rfl, fun W hW => by go_simp⟩) hS ?_
              try simp only [Act.put, List.setIfInBounds_toArray, List.set_cons_zero, List.set_cons_succ]
              refine wpAnyH_ready (rs := [14]) (by kernel_rfl) (by simp) ?_
              refine AllReadyH.cons rfl (fun K hK => ?_) AllReadyH.nil
              refine step_store_blk rfl _ _ _ rfl (cs := #[.slice none 0 0, .int .i64 0, .slice none 0 0, .int .i64 0, .int .i64 0]) (ds := [.slice AL bits.length cL, .int .i64 (d8.p : Int), .slice Ao no co, .int .i64 most, .int .i64 d8.e]) (by exact Jf.z) rfl rfl rfl (by kernel_rfl) (by intro u hu; simp only [List.mem_cons, List.not_mem_nil, or_false] at hu; rcases hu with rfl | rfl | rfl | rfl | rfl <;> rfl) ?_
              intro w9 X9 g9
              have o9 := of.kept g9 (.inr (of.ne_block Jf.z (by decide)))
              have b9 : Below w.heap.size w w9 := Jf.b.trans (below_of_grown g9 Jf.b.size (fun x hx => by injection hx with hx; omega))
              refine hK.out _ _ (hS.grown g9 (by intro h; injection h with h; omega)) (fun hS => ?_)
              clear hK K
              try simp only [Act.put, List.setIfInBounds_toArray, List.set_cons_zero, List.set_cons_succ]
              refine wpAnyH_done (by kernel_rfl) ?_ _
              go_wp2_with fail
              exact bodyPost_ret (v := .tuple #[.slice (some ⟨g7, 0, none⟩) (an + 257) c, .slice (some ⟨g7, an + 257, none⟩) (xn + 1) (c - (an + 257)), .agg #[.slice AL bits.length cL, .int .i64 (d8.p : Int), .slice Ao no co, .int .i64 most, .int .i64 d8.e]]) (results_tmp2_row rfl _ _ (w.heap.size + 1) 43 _ (0, 0) _ _ _ rfl rfl rfl X9 Tryd.underlying43 rfl (by kernel_rfl)) rfl (FIN.out _ o9 b9)
          · have z : (d7.e == 0) = false := by rw [beq_eq_false_iff_ne]; exact he7
            have HF := Lib.hid (fun (W' : World) (g : wc.drew.grownBy W' (some (w.heap.size + 1))) => rdyn_err HY.out H6.out (fun _ => G7) (fun c => absurd HE6.out c) he7 J7.drew g (some ⟨gl, 0, none⟩))
            clear he7
            go_upto_region 18 with fail
            have JZ := J7.drew
            refine wp_region_held_drew (S := (fun W => Block W w.heap.size 43 #[.slice AL bits.length cL, .int .i64 (d7.p : Int), .slice Ao no co, .int .i64 most, .int .i64 d7.e])) (by kernel_rfl) JZ.x (fun hS => ?_)
            refine wpAnyH_take (i := 0) (oi := ⟨some 93, _, _, _, _, _⟩) (v := .slice (some ⟨gl, 0, none⟩) 19 19) rfl (by kernel_rfl) (by kernel_rfl) (by kernel_rfl) (fun _ _ _ h => h) (Or.inl ⟨by rfl, fun W hW => by go_simp⟩) hS ?_
            try simp only [Act.put, List.setIfInBounds_toArray, List.set_cons_zero, List.set_cons_succ]
            refine wpAnyH_take (i := 1) (oi := ⟨some 94, _, _, _, _, _⟩) (v := .slice (some ⟨gl, 0, none⟩) 19 19) rfl (by kernel_rfl) (by kernel_rfl) (by kernel_rfl) (fun _ _ _ h => h) (Or.inl ⟨by rfl, fun W hW => by go_simp⟩) hS ?_
            try simp only [Act.put, List.setIfInBounds_toArray, List.set_cons_zero, List.set_cons_succ]
            refine wpAnyH_take (i := 2) (oi := ⟨some 95, _, _, _, _, _⟩) (v := .agg #[.slice AL bits.length cL, .int .i64 (d7.p : Int), .slice Ao no co, .int .i64 most, .int .i64 d7.e]) rfl (by kernel_rfl) (by kernel_rfl) (by kernel_rfl) (fun _ _ _ h => h) (yieldsIf_load_mid (by rfl) _ _ rfl (w.heap.size) (0) rfl [.slice AL bits.length cL, .int .i64 (d7.p : Int), .slice Ao no co, .int .i64 most, .int .i64 d7.e] _ (fun W hW => block_range (L := [.slice AL bits.length cL, .int .i64 (d7.p : Int), .slice Ao no co, .int .i64 most, .int .i64 d7.e]) hW) Tryd.underlying43 rfl (by kernel_rfl)) hS ?_
            try simp only [Act.put, List.setIfInBounds_toArray, List.set_cons_zero, List.set_cons_succ]
            refine wpAnyH_take (i := 3) (oi := ⟨some 2, _, _, _, _, _⟩) (v := .slice (some ⟨gl, 0, none⟩) 19 19) rfl (by kernel_rfl) (by kernel_rfl) (by kernel_rfl) (fun _ _ _ h => h) (Or.inl ⟨by rfl, fun W hW => by go_simp⟩) hS ?_
            try simp only [Act.put, List.setIfInBounds_toArray, List.set_cons_zero, List.set_cons_succ]
            refine wpAnyH_take (i := 4) (oi := ⟨some 3, _, _, _, _, _⟩) (v := .slice (some ⟨gl, 0, none⟩) 19 19) rfl (by kernel_rfl) (by kernel_rfl) (by kernel_rfl) (fun _ _ _ h => h) (Or.inl ⟨by rfl, fun W hW => by go_simp⟩) hS ?_
            try simp only [Act.put, List.setIfInBounds_toArray, List.set_cons_zero, List.set_cons_succ]
            refine wpAnyH_ready (rs := [5]) (by kernel_rfl) (by simp) ?_
            refine AllReadyH.cons rfl (fun K hK => ?_) AllReadyH.nil
            refine step_store_blk rfl _ _ _ rfl (cs := #[.slice none 0 0, .int .i64 0, .slice none 0 0, .int .i64 0, .int .i64 0]) (ds := [.slice AL bits.length cL, .int .i64 (d7.p : Int), .slice Ao no co, .int .i64 most, .int .i64 d7.e]) (by exact JZ.z) rfl rfl rfl (by kernel_rfl) (by intro u hu; simp only [List.mem_cons, List.not_mem_nil, or_false] at hu; rcases hu with rfl | rfl | rfl | rfl | rfl <;> rfl) ?_
            intro w9 X9 g9
            refine hK.out _ _ (hS.grown g9 (by intro h; injection h with h; omega)) (fun hS => ?_)
            clear hK K
            try simp only [Act.put, List.setIfInBounds_toArray, List.set_cons_zero, List.set_cons_succ]
            refine wpAnyH_done (by kernel_rfl) ?_ _
            go_wp2_with fail
            exact bodyPost_ret (v := .tuple #[.slice (some ⟨gl, 0, none⟩) 19 19, .slice (some ⟨gl, 0, none⟩) 19 19, .agg #[.slice AL bits.length cL, .int .i64 (d7.p : Int), .slice Ao no co, .int .i64 most, .int .i64 d7.e]]) (results_tmp2_row rfl _ _ (w.heap.size + 1) 43 _ (0, 0) _ _ _ rfl rfl rfl X9 Tryd.underlying43 rfl (by kernel_rfl)) rfl (HF.out _ g9)
      · have z : (d6.e == 0) = false := by rw [beq_eq_false_iff_ne]; exact he6
        have HF := Lib.hid (fun (W' : World) (g : w6.drew.grownBy W' (some (w.heap.size + 1))) => rdyn_err (l := []) (d7 := d6) HY.out H6.out (fun c => absurd c he6) (fun _ => rfl) he6 J6.drew g (some ⟨gl, 0, none⟩))
        clear he6
        go_upto_region 15 with fail
        have JZ := J6.drew
        refine wp_region_held_drew (S := (fun W => Block W w.heap.size 43 #[.slice AL bits.length cL, .int .i64 (d6.p : Int), .slice Ao no co, .int .i64 most, .int .i64 d6.e])) (by kernel_rfl) JZ.x (fun hS => ?_)
        refine wpAnyH_take (i := 0) (oi := ⟨some 76, _, _, _, _, _⟩) (v := .slice (some ⟨gl, 0, none⟩) 19 19) rfl (by kernel_rfl) (by kernel_rfl) (by kernel_rfl) (fun _ _ _ h => h) (Or.inl ⟨by rfl, fun W hW => by go_simp⟩) hS ?_
        try simp only [Act.put, List.setIfInBounds_toArray, List.set_cons_zero, List.set_cons_succ]
        refine wpAnyH_take (i := 1) (oi := ⟨some 77, _, _, _, _, _⟩) (v := .slice (some ⟨gl, 0, none⟩) 19 19) rfl (by kernel_rfl) (by kernel_rfl) (by kernel_rfl) (fun _ _ _ h => h) (Or.inl ⟨by rfl, fun W hW => by go_simp⟩) hS ?_
        try simp only [Act.put, List.setIfInBounds_toArray, List.set_cons_zero, List.set_cons_succ]
        refine wpAnyH_take (i := 2) (oi := ⟨some 78, _, _, _, _, _⟩) (v := .agg #[.slice AL bits.length cL, .int .i64 (d6.p : Int), .slice Ao no co, .int .i64 most, .int .i64 d6.e]) rfl (by kernel_rfl) (by kernel_rfl) (by kernel_rfl) (fun _ _ _ h => h) (yieldsIf_load_mid (by rfl) _ _ rfl (w.heap.size) (0) rfl [.slice AL bits.length cL, .int .i64 (d6.p : Int), .slice Ao no co, .int .i64 most, .int .i64 d6.e] _ (fun W hW => block_range (L := [.slice AL bits.length cL, .int .i64 (d6.p : Int), .slice Ao no co, .int .i64 most, .int .i64 d6.e]) hW) Tryd.underlying43 rfl (by kernel_rfl)) hS ?_
        try simp only [Act.put, List.setIfInBounds_toArray, List.set_cons_zero, List.set_cons_succ]
        refine wpAnyH_take (i := 3) (oi := ⟨some 2, _, _, _, _, _⟩) (v := .slice (some ⟨gl, 0, none⟩) 19 19) rfl (by kernel_rfl) (by kernel_rfl) (by kernel_rfl) (fun _ _ _ h => h) (Or.inl ⟨by rfl, fun W hW => by go_simp⟩) hS ?_
        try simp only [Act.put, List.setIfInBounds_toArray, List.set_cons_zero, List.set_cons_succ]
        refine wpAnyH_take (i := 4) (oi := ⟨some 3, _, _, _, _, _⟩) (v := .slice (some ⟨gl, 0, none⟩) 19 19) rfl (by kernel_rfl) (by kernel_rfl) (by kernel_rfl) (fun _ _ _ h => h) (Or.inl ⟨by rfl, fun W hW => by go_simp⟩) hS ?_
        try simp only [Act.put, List.setIfInBounds_toArray, List.set_cons_zero, List.set_cons_succ]
        refine wpAnyH_ready (rs := [5]) (by kernel_rfl) (by simp) ?_
        refine AllReadyH.cons rfl (fun K hK => ?_) AllReadyH.nil
        refine step_store_blk rfl _ _ _ rfl (cs := #[.slice none 0 0, .int .i64 0, .slice none 0 0, .int .i64 0, .int .i64 0]) (ds := [.slice AL bits.length cL, .int .i64 (d6.p : Int), .slice Ao no co, .int .i64 most, .int .i64 d6.e]) (by exact JZ.z) rfl rfl rfl (by kernel_rfl) (by intro u hu; simp only [List.mem_cons, List.not_mem_nil, or_false] at hu; rcases hu with rfl | rfl | rfl | rfl | rfl <;> rfl) ?_
        intro w9 X9 g9
        refine hK.out _ _ (hS.grown g9 (by intro h; injection h with h; omega)) (fun hS => ?_)
        clear hK K
        try simp only [Act.put, List.setIfInBounds_toArray, List.set_cons_zero, List.set_cons_succ]
        refine wpAnyH_done (by kernel_rfl) ?_ _
        go_wp2_with fail
        exact bodyPost_ret (v := .tuple #[.slice (some ⟨gl, 0, none⟩) 19 19, .slice (some ⟨gl, 0, none⟩) 19 19, .agg #[.slice AL bits.length cL, .int .i64 (d6.p : Int), .slice Ao no co, .int .i64 most, .int .i64 d6.e]]) (results_tmp2_row rfl _ _ (w.heap.size + 1) 43 _ (0, 0) _ _ _ rfl rfl rfl X9 Tryd.underlying43 rfl (by kernel_rfl)) rfl (HF.out _ g9)
end Go.Proofs.YthflefdchgpbdaaDoor.Inf
