/-
  Layer 24, journal: where Get stands while it reads on. Conditions: as each theorem names.
-/
import Derived.Test.YtpnodocjpedcmaaDoorMJrF
import Derived.Test.YtpnodocjpedcmaaDoorMJrD
namespace Go.Proofs.YtpnodocjpedcmaaDoor.Jr
open Go.ChangeShapes Go.WideShapes Go.ChangeAt Go.RowKit Go.Proofs.YtpnodocjpedcmaaDoor.Kit Go.Proofs.YtpnodocjpedcmaaDoor.Oct

/-- Behind p bytes: the slice's box, the result's block, the place's own. -/
structure St (w W : World) (ga : Nat) (A : Option Addr) (c : Nat) (xs : List Int) (p : Nat) : Prop where
  box : Block W w.heap.size 22 #[.slice A xs.length c]
  none_ : Block W (w.heap.size + 1) 50 rec0.cells.toArray
  at_ : Block W ga 3 #[.int .i64 (p : Int)]
  bel : Below w.heap.size w W
  big : w.heap.size + 2 ≤ ga

theorem St.alloc {w W : World} {ga : Nat} {A : Option Addr} {c : Nat} {xs : List Int} {p : Nat} (S : St w W ga A c xs p) (o : Obj) : St w (W.alloc o) ga A c xs p :=
  ⟨S.box.alloc o, S.none_.alloc o, S.at_.alloc o, S.bel.alloc S.bel.size o, S.big⟩
theorem St.grown {w W W' : World} {ga g : Nat} {A : Option Addr} {c : Nat} {xs : List Int} {p : Nat} (S : St w W ga A c xs p) (h : W.grownBy W' (some g)) (hg : w.heap.size + 2 ≤ g) (hne : g ≠ ga) : St w W' ga A c xs p :=
  ⟨S.box.grown h (by intro e; injection e with e; omega), S.none_.grown h (by intro e; injection e with e; omega), S.at_.grown h (by intro e; injection e with e; exact hne e), S.bel.trans (below_of_grown h S.bel.size fun b hb => by injection hb with hb; omega), S.big⟩
theorem St.far {w W : World} {ga g i : Nat} {A : Option Addr} {c : Nat} {xs : List Int} {p : Nat} (S : St w W ga A c xs p) (hg : w.heap.size + 2 ≤ g) (hne : g ≠ ga) (u : Value) : St w (W.setCell ⟨g, i, none⟩ u) ga A c xs p :=
  ⟨S.box.far (by show _ ≠ g; omega) u, S.none_.far (by show _ ≠ g; omega) u, S.at_.far (by show ga ≠ g; exact fun e => hne e.symm) u,
    S.bel.trans ⟨rfl, rfl, rfl, by simp [World.setCell], fun b hb => Below.heap_setCell W ⟨g, i, none⟩ u b (by show b ≠ g; omega)⟩, S.big⟩
theorem St.moved {w W : World} {ga : Nat} {A : Option Addr} {c : Nat} {xs : List Int} {p : Nat} (S : St w W ga A c xs p) (q : Nat) : St w (W.setCell ⟨ga, 0, none⟩ (.int .i64 (q : Int))) ga A c xs q :=
  ⟨S.box.far (by show _ ≠ ga; have := S.big; omega) _, S.none_.far (by show _ ≠ ga; have := S.big; omega) _, by have := S.at_.set_ 0 (.int .i64 (q : Int)); simpa using this,
    S.bel.trans ⟨rfl, rfl, rfl, by simp [World.setCell], fun b hb => Below.heap_setCell W ⟨ga, 0, none⟩ _ b (by show b ≠ ga; have := S.big; omega)⟩, S.big⟩

/-- All other blocks stay. -/
def Stays (ga : Nat) (W W' : World) : Prop := (∀ g t cs, g ≠ ga → Block W g t cs → Block W' g t cs) ∧ W'.heap.size = W.heap.size

theorem next_st {w W : World} {ga : Nat} {A : Option Addr} {c : Nat} {xs : List Int} {p : Nat} (m : Nat) (S : St w W ga A c xs p) (hm : 1 ≤ m ∧ m ≤ 8) (h : p + m ≤ xs.length) (hl : xs.length ≤ 1000) (hc : xs.length ≤ c) (ho : Octets xs) (hr : Holds w w.heap.size .u8 A xs) :
    Calls Tryd.prog 78 #[.int .i64 m, .pointer (some ⟨w.heap.size, 0, none⟩), .pointer (some ⟨ga, 0, none⟩)] W fun e w' => e = .returned (.int .u64 (numA xs p m)) ∧ St w w' ga A c xs (p + m) ∧ Stays ga W w' := by
  refine (next_any w.heap.size ga A xs c p m W (by omega) hc hm h ho ((hr.below S.bel).more S.bel.size) (S.box.cell 0) (S.at_.cell 0) (S.at_.frozen 0)).mono ?_
  rintro e w' ⟨rfl, rfl⟩
  exact ⟨rfl, S.moved (p + m), fun g t cs hg hb => hb.far (by show g ≠ ga; exact hg) _, by simp [World.setCell]⟩

theorem numA_one (xs : List Int) (p : Nat) (h : p < xs.length) : numA xs p 1 = xs.getD p 0 := by
  unfold numA
  have e : (xs.drop p).take 1 = [xs.getD p 0] := by
    rw [List.drop_eq_getElem_cons h, List.take_succ_cons, List.take_zero]
    simp [List.getD, List.getElem?_eq_getElem h]
  rw [e]
  simp [val]
theorem numA_four (xs : List Int) (p : Nat) (ho : Octets xs) (h : p + 4 ≤ xs.length) : 0 ≤ numA xs p 4 ∧ numA xs p 4 < 4294967296 := by
  have := val_bd (xs.drop p) (ho.tail p) 4 (by simp; omega)
  unfold numA
  rwa [show (256 : Int) ^ 4 = 4294967296 from rfl] at this

set_option maxRecDepth 100000 in
/-- The record's first six fields, built. -/
theorem build_mid (a b c d e f : Int) (W : World) : (Instr.build 50 #[(0, .int .u64 a), (1, .int .u8 b), (2, .int .u64 c), (3, .int .i64 d), (4, .int .u8 e), (5, .int .u8 f)]).run Tryd.prog W = .ok (.agg (Rec.mk a b c d e f (List.replicate 32 0) 0 0 0 0 0 0).cells.toArray) W := by kernel_rfl
theorem cells_set38 (r : Rec) (h : r.man.length = 32) (v : Int) : r.cells.toArray.setIfInBounds 38 (.int .u64 v) = ({ r with nv := v } : Rec).cells.toArray := by
  match hm : r.man, h with
  | [a0, a1, a2, a3, a4, a5, a6, a7, a8, a9, a10, a11, a12, a13, a14, a15, a16, a17, a18, a19, a20, a21, a22, a23, a24, a25, a26, a27, a28, a29, a30, a31], _ => simp [Rec.cells, hm]
theorem cells_set39 (r : Rec) (h : r.man.length = 32) (v : Int) : r.cells.toArray.setIfInBounds 39 (.int .i64 v) = ({ r with nl := v } : Rec).cells.toArray := by
  match hm : r.man, h with
  | [a0, a1, a2, a3, a4, a5, a6, a7, a8, a9, a10, a11, a12, a13, a14, a15, a16, a17, a18, a19, a20, a21, a22, a23, a24, a25, a26, a27, a28, a29, a30, a31], _ => simp [Rec.cells, hm]
theorem cells_set40 (r : Rec) (h : r.man.length = 32) (v : Int) : r.cells.toArray.setIfInBounds 40 (.int .i64 v) = ({ r with dn := v } : Rec).cells.toArray := by
  match hm : r.man, h with
  | [a0, a1, a2, a3, a4, a5, a6, a7, a8, a9, a10, a11, a12, a13, a14, a15, a16, a17, a18, a19, a20, a21, a22, a23, a24, a25, a26, a27, a28, a29, a30, a31], _ => simp [Rec.cells, hm]
theorem cells_set41 (r : Rec) (h : r.man.length = 32) (v : Int) : r.cells.toArray.setIfInBounds 41 (.int .u64 v) = ({ r with at_ := v } : Rec).cells.toArray := by
  match hm : r.man, h with
  | [a0, a1, a2, a3, a4, a5, a6, a7, a8, a9, a10, a11, a12, a13, a14, a15, a16, a17, a18, a19, a20, a21, a22, a23, a24, a25, a26, a27, a28, a29, a30, a31], _ => simp [Rec.cells, hm]
theorem cells_set42 (r : Rec) (h : r.man.length = 32) (v : Int) : r.cells.toArray.setIfInBounds 42 (.int .i64 v) = ({ r with blk := v } : Rec).cells.toArray := by
  match hm : r.man, h with
  | [a0, a1, a2, a3, a4, a5, a6, a7, a8, a9, a10, a11, a12, a13, a14, a15, a16, a17, a18, a19, a20, a21, a22, a23, a24, a25, a26, a27, a28, a29, a30, a31], _ => simp [Rec.cells, hm]
theorem cells_set43 (r : Rec) (h : r.man.length = 32) (v : Int) : r.cells.toArray.setIfInBounds 43 (.int .i64 v) = ({ r with asz := v } : Rec).cells.toArray := by
  match hm : r.man, h with
  | [a0, a1, a2, a3, a4, a5, a6, a7, a8, a9, a10, a11, a12, a13, a14, a15, a16, a17, a18, a19, a20, a21, a22, a23, a24, a25, a26, a27, a28, a29, a30, a31], _ => simp [Rec.cells, hm]
theorem cells_man (r : Rec) (h : r.man.length = 32) (ys : List Int) (hy : ys.length = 32) : (r.cells.take 6 ++ (ys.map (Value.int .u8) ++ r.cells.drop (6 + ys.length))) = ({ r with man := ys } : Rec).cells := by
  match hm : r.man, h with
  | [a0, a1, a2, a3, a4, a5, a6, a7, a8, a9, a10, a11, a12, a13, a14, a15, a16, a17, a18, a19, a20, a21, a22, a23, a24, a25, a26, a27, a28, a29, a30, a31], _ => simp [Rec.cells, hm, hy]
theorem numA_eight (xs : List Int) (p : Nat) (ho : Octets xs) (h : p + 8 ≤ xs.length) : 0 ≤ numA xs p 8 ∧ numA xs p 8 < 18446744073709551616 := val_lt8 (xs.drop p) (ho.tail p) 8 (by simp; omega) (by omega)
end Go.Proofs.YtpnodocjpedcmaaDoor.Jr
