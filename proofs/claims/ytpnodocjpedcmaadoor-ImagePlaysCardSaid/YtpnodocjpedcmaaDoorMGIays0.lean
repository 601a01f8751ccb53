/-
  Own words for every seat: how a law that leaves all old memory alone becomes its row, and how a slice of one-cell integers is read. Conditions: none beyond what each theorem names.
  Own words for rows of integers that a call makes itself: what is owned, what append, make and copy leave. No program. No conditions beyond what each theorem names.
  Own words: a world that has turned in some blocks alone (and has new ones). No program. No conditions beyond what each theorem names.
  Layer 6, sector: what is kept of sectors, as a list and as a map in memory. Conditions: as each theorem names.
  Layer 6, sector: maps of sectors and a device, in memory. Conditions: as each theorem names.
  Layer 6, sector: a device in memory; its small methods: contracts. Conditions: as each theorem names.
  Layer 6, sector: Fuse, Off, blows: contracts. Conditions: as each theorem names.
  Layer 6, sector: Clone, New, Read: contracts. Conditions: as each theorem names.
  Layer 6, sector: Read: contract. Conditions: as each theorem names.
  Layer 6, sector: Write: contract. Conditions: as each theorem names.
  Layer 6, sector: lists of sectors, plain. Conditions: as each theorem names.
  Layer 6, sector: Sync: contract. Conditions: as each theorem names.
  Own words: a row of bytes read as a string; a step that kept rows apart. No program. No conditions beyond what each theorem names.
  Layer 7, part: contracts of the layouts' functions. Conditions: as each theorem names.
  Layer 7, part: whether a layout may be, and its map: contracts. Conditions: as each theorem names.
  Layer 7, part: the document's functions on layouts, and Layout: contracts. Conditions: as each theorem names.
  Layer 7, part: maps of layouts: contracts. Conditions: as each theorem names.
  Own words: each law at the head of a list of operations serves as a step of a region that draws its order. No program. No conditions beyond what each theorem names.
  Layer 7, part: a map is equal to itself; the document's example. Conditions: as each theorem names.
  Layer 7, part: what a nil part answers, and a part of a nil device. Conditions: none.
  Own words for arrays of integers: in a block of their own, by value, compared. No program. No conditions beyond what each theorem names.
  Own words: whole arrays of integers stored and loaded, as steps of a region that draws its order. No program. No conditions beyond what each theorem names.
  Own words for structs of integers, by value and in slices that came in. No program. No conditions beyond what each theorem names.
  Own words for a struct parameter of three integers and a slice of bytes. No program. No conditions beyond what each theorem names.
  Own words for slices of elements of any shape that came in. No program. No conditions beyond what each theorem names.
  Own words for slices of rows of bytes that came in, or that a call lays itself. No program. No conditions beyond what each theorem names.
  Own words: rows of bytes that a call lays itself in a new block. No program. No conditions beyond what each theorem names.
  Own words: rows that stay where something new is laid and filled; a row's first numbers; rows that grow in a world that only adds. No program. No conditions beyond what each theorem names.
  Own words: texts of bytes, cut and joined. No program. No conditions beyond what each theorem names.
  Layer 6, the document's sectors: rows of them; find: contracts. Conditions: as each theorem names.
  Layer 6, the document's sectors: put: contract. Conditions: as each theorem names.
  Layer 6, the document's device: New, fall, Down: contracts. Conditions: as each theorem names.
  Layer 6, the document's device: Read: contract. Conditions: as each theorem names.
  Layer 1, sha: bits moved round the end: both functions, one answer. Conditions: as each theorem names.
-/
import Derived.Below
import Derived.Carry
import Derived.WalkKit
import Derived.ProofKit
import Derived.OpenShut
import Derived.Lib.Hide
import Derived.Deep.Draws
import Derived.Maps.AppendAt
import Derived.Deep.AppendLies
import Derived.Laws.CopyOwn
import Derived.Laws.MakeOwn
import Derived.OwnWalk
import Derived.RegionTactic
import Derived.Maps.OwnSet
import Derived.Test.YtpnodocjpedcmaaDoorRows
import Derived.Deep.QuietTactic
import Derived.BigQuiet
import Derived.Lib.SliceRun
import Derived.Deep.RegionWith
import Derived.Deep.CutRange
import Derived.Deep.DeepCutAuto
import Derived.Deep.CutBlock
import Derived.Maps.RangeWalk
import Derived.LoopTactic
import Derived.Laws.BytesArg
import Derived.Deep.RegionHeld3
import Derived.Lib.QuietBelow
import Derived.Laws.ResultCell
import Derived.Deep.RegionHeld
import Derived.Laws.StructEq
import Derived.ChangeKeysEq
import Derived.Deep.MidRow
import Derived.DataReads
import Derived.ChangeArms
import Derived.Laws.BitsAllLaws
namespace Go.Proofs.YtpnodocjpedcmaaDoor.Kit
open Go.ChangeShapes Go.WideShapes Go.ChangeAt Go.RowKit

section
variable {H : Type} {enc : TypeId × Value → H} {P : Program}

theorem trodAll_below (hl : laidOutB P = true) {W W' : World} (hb : Below W.heap.size W W') :
    ∀ {ts : List TypeId} {vs : List Value} {ds : List (DataW H)} {ps : List MemPlace}, ts.all (fun t => P.readableRec t && decide (t < P.types.size)) = true →
      DataW.TrodAll enc P W 0 (fun _ => true) true ts vs ds ps → (∀ x ∈ ps, x.block < W.heap.size) → DataW.TrodAll enc P W' 0 (fun b => decide (b < W.heap.size)) true ts vs ds ps
  | [], [], [], _, _, h, _ => h
  | [], _ :: _, _, _, _, h, _ => h.elim
  | [], [], _ :: _, _, _, h, _ => h.elim
  | _ :: _, [], _, _, _, h, _ => h.elim
  | _ :: _, _ :: _, [], _, _, h, _ => h.elim
  | t :: ts, v :: vs, d :: ds, ps, hr, h, hlt => by
    obtain ⟨p, q, h1, h2, rfl⟩ := h
    simp only [List.all_cons, Bool.and_eq_true, decide_eq_true_eq] at hr
    exact ⟨p, q, Below.trod hl hr.1.1 hr.1.2 h1 hb (fun x hx => hlt x (by simp [hx])), trodAll_below hl hb (by simpa using hr.2) h2 (fun x hx => hlt x (by simp [hx])), rfl⟩

/-- A law's end: it answered true, and nothing that was there before has turned. -/
theorem law_post {f : Func} {s : ChangeSpec} {apart fresh handsOn : Bool} {W W' : World} {args : Array Value} {ds gs : List (DataW H)} {before : List MemPlace} {tb : TypeId}
    (hl : laidOutB P = true) (hr : f.params.toList.all (fun t => P.readableRec t && decide (t < P.types.size)) = true)
    (hW : DataW.Whole enc P f.params.toList s.vars apart W args.toList ds gs before) (hv : s.vars = [])
    (hres : f.resultTypes = #[tb]) (htb : P.underlying tb = some .bool)
    (hfn : s.fn H ds = { results := [.lit (.bool true)], args := ds }) (hb : Below W.heap.size W W') :
    s.post enc P f apart fresh handsOn false W args (.bool true) W' := by
  have hW' := hW
  obtain ⟨p, q, hA, hV, hps, hz, hn⟩ := hW
  rw [hv] at hV
  obtain ⟨rfl, rfl⟩ := trodVars_none hV
  simp only [List.append_nil] at hps
  subst hps
  have hlt : ∀ x ∈ before, x.block < W.heap.size := fun x hx => hW'.lt x hx
  refine ⟨ds, [], before, [], before, [], hW', ?_, ?_, ?_, World.keptBut_mono (fun x hx => ⟨hx, Or.inr (Or.inl hx)⟩) (hb.frame (· ∈ before)), fun h => by cases h⟩
  · rw [List.append_nil, hfn, hres]
    exact trodAll_mk1 (shut_bool htb _)
  · rw [List.append_nil, hfn]
    exact trodAll_below hl hb hr hA hlt
  · rw [List.append_nil, hfn, hv]
    exact rfl
end

theorem below_draws {B : Nat} {a w : World} (h : Below B a w) (n : Nat) : Below B a (w.drewN n) := ⟨h.os, h.tape, h.output, h.size, h.block⟩

/-! ### A slice of one-cell integers -/

/-- The slice at A holds the numbers xs; its memory lies below block B. -/
def Holds (w : World) (B : Nat) (k : IntKind) (A : Option Addr) (xs : List Int) : Prop :=
  0 < xs.length → ∃ b off : Nat, A = some ⟨b, off, none⟩ ∧ b < B ∧ ∀ j, j < xs.length → w.cell? ⟨b, off + j, none⟩ = some (.int k (xs.getD j 0))

theorem Holds.nil {w : World} {B : Nat} {k : IntKind} {A : Option Addr} : Holds w B k A [] := fun h => absurd h (by simp)

theorem Holds.keep {w w' : World} {B : Nat} {k : IntKind} {A : Option Addr} {xs : List Int} (h : Holds w B k A xs) (hk : ∀ p : Addr, p.block < B → w'.cell? p = w.cell? p) : Holds w' B k A xs := by
  intro hx
  obtain ⟨b, off, e, hb, hc⟩ := h hx
  exact ⟨b, off, e, hb, fun j hj => (hk _ hb).trans (hc j hj)⟩

theorem Holds.below {w w' : World} {B : Nat} {k : IntKind} {A : Option Addr} {xs : List Int} (h : Holds w B k A xs) (hb : Below B w w') : Holds w' B k A xs := h.keep fun _ hp => hb.cell hp

theorem Holds.more {w : World} {B B' : Nat} {k : IntKind} {A : Option Addr} {xs : List Int} (h : Holds w B k A xs) (hB : B ≤ B') : Holds w B' k A xs := by
  intro hx
  obtain ⟨b, off, e, hb, hc⟩ := h hx
  exact ⟨b, off, e, by omega, hc⟩

def Octets (xs : List Int) : Prop := ∀ n ∈ xs, 0 ≤ n ∧ n ≤ 255

theorem Octets.at_ {xs : List Int} (h : Octets xs) (j : Nat) : 0 ≤ xs[j]?.getD 0 ∧ xs[j]?.getD 0 ≤ 255 := by
  by_cases hj : j < xs.length
  · have := h xs[j] (List.getElem_mem hj)
    simpa [hj] using this
  · simp [List.getElem?_eq_none (by omega : xs.length ≤ j)]

theorem Octets.tail {xs : List Int} (h : Octets xs) (n : Nat) : Octets (xs.drop n) := fun _ hx => h _ (List.mem_of_mem_drop hx)
theorem Octets.head {xs : List Int} (h : Octets xs) (n : Nat) : Octets (xs.take n) := fun _ hx => h _ (List.mem_of_mem_take hx)

/-- A []uint8 that came in, opened: nil or not, it is a slice that holds its bytes. -/
theorem open_octets {H : Type} {enc : TypeId × Value → H} {P : Program} {w : World} {base : Nat} {t e : TypeId} {v : Value} {d : DataW H} {ps : List MemPlace}
    (ht : P.underlying t = some (.slice e)) (he : P.underlying e = some (.int .u8)) (hc : P.cellsOf e = 1)
    (hval : Value.okWide P w .any base t v) (h : DataW.Trod enc P w 0 (fun _ => true) true t v d ps) (hlt : ∀ x ∈ ps, x.block < w.heap.size) :
    ∃ (A : Option Addr) (cap : Nat) (xs : List Int), v = .slice A xs.length cap ∧ xs.length ≤ cap ∧ cap ≤ maxLen ∧ Octets xs ∧ Holds w w.heap.size .u8 A xs := by
  obtain ⟨a0, len, cap, rfl⟩ := okWide_slice ht hval
  obtain ⟨fuel, hf⟩ := h
  rcases open_ints ht he hc hf with ⟨hcs, hx⟩ | ⟨a, len', cap', zs, hcs, _, hl, hm, hz, hx, hcell, hwz⟩
  · simp [Value.cells] at hcs
    obtain ⟨rfl, rfl, rfl⟩ := hcs
    exact ⟨none, 0, [], rfl, Nat.le_refl _, Nat.zero_le _, fun _ h => by simp at h, Holds.nil⟩
  · simp [Value.cells] at hcs
    obtain ⟨rfl, rfl, rfl⟩ := hcs
    simp only [Prod.mk.injEq] at hx
    obtain ⟨rfl, rfl⟩ := hx
    simp only [if_true] at hz
    refine ⟨some a, cap, zs.take len, by simp [hz, Nat.min_eq_left hl], by simp; omega, hm, fun n hn => bounds_u8 (hwz n (List.mem_of_mem_take hn)), fun hx => ?_⟩
    simp only [List.length_take] at hx
    obtain ⟨b, off, spot⟩ := a
    have hspot : spot = none := by simpa [Addr.add] using World.cell?_spot (hcell 0 (by omega))
    subst hspot
    refine ⟨b, off, rfl, hlt (.cell b (off + 0)) (MemPlace.mem_row.2 ⟨0, by omega, by simp⟩), fun j hj => ?_⟩
    simp only [List.length_take] at hj
    rw [← add_plain, hcell j (by omega)]
    simp [List.getD, show j < len by omega]
end Go.Proofs.YtpnodocjpedcmaaDoor.Kit

namespace Go.Proofs.YtpnodocjpedcmaaDoor.Kit
open Go.ChangeShapes Go.WideShapes Go.ChangeAt Go.RowKit

/-- v is a slice of the call's own, at the head of a row from block B on (or nil), and reads xs. -/
def Own (w : World) (B : Nat) (e : TypeId) (k : IntKind) (v : Value) (xs : List Int) : Prop := w.ownsRow B e 1 v xs.length (xs.map (Value.int k))

/-- t is the type of slices over e, integers of kind k. -/
def IntElem (P : Program) (t e : TypeId) (k : IntKind) (bytes : Nat) : Prop :=
  P.underlying t = some (.slice e) ∧ (P.info? e).map (fun i => (i.zero, i.size, i.bytes)) = some (some (.int k 0), 1, bytes) ∧ bytes ≤ 8

section
variable {w w' : World} {B B' : Nat} {e : TypeId} {k : IntKind} {v : Value} {xs ys : List Int}

theorem ints_one (k : IntKind) (xs : List Int) : ∀ u ∈ xs.map (Value.int k), u.oneCell' = true := by
  intro u hu
  obtain ⟨n, _, rfl⟩ := List.mem_map.1 hu
  rfl

theorem get_ints {k : IntKind} {xs : List Int} {j : Nat} {u : Value} (h : (xs.map (Value.int k))[j]? = some u) : j < xs.length ∧ u = .int k (xs.getD j 0) := by
  rcases Nat.lt_or_ge j xs.length with hj | hj
  · simp [List.getElem?_eq_getElem hj] at h
    exact ⟨hj, by rw [← h]; simp [List.getD, List.getElem?_eq_getElem hj]⟩
  · simp [List.getElem?_eq_none hj] at h

theorem Own.nil (w : World) (B : Nat) (e : TypeId) (k : IntKind) : Own w B e k (.slice none 0 0) [] := World.ownsRow_nil w B e 1

theorem Own.empty (w : World) (e : TypeId) (k : IntKind) (hB : B ≤ w.heap.size) : Own (w.alloc (.cells #[] e)) B e k (.slice (some ⟨w.heap.size, 0, none⟩) 0 0) [] :=
  World.ownsRow_lit (size := 1) w #[] 0 hB (Nat.zero_le _) rfl

theorem Own.opened (h : Own w B e k v xs) : ∃ (A : Option Addr) (cap : Nat), v = .slice A xs.length cap ∧ xs.length ≤ cap ∧ cap ≤ maxLen ∧ Holds w w.heap.size k A xs := by
  rcases h.2 with ⟨rfl, h0⟩ | ⟨g, cap, cur, rfl, hb, hg, hnc, hcm, hcs, htake⟩
  · obtain rfl : xs = [] := List.eq_nil_of_length_eq_zero h0
    exact ⟨none, 0, rfl, Nat.le_refl _, Nat.zero_le _, Holds.nil⟩
  · refine ⟨some ⟨g, 0, none⟩, cap, rfl, hnc, hcm, fun _ => ⟨g, 0, rfl, (Array.getElem?_eq_some_iff.1 hg).1, fun j hj => ?_⟩⟩
    have := World.ownsRow.cellAt h j (by omega)
    rw [Nat.zero_add, this]
    simp [List.getD, List.getElem?_eq_getElem hj]

theorem Own.form (h : Own w B e k v xs) (hx : 0 < xs.length) : ∃ g cap : Nat, v = .slice (some ⟨g, 0, none⟩) xs.length cap ∧ B ≤ g ∧ g < w.heap.size ∧ xs.length ≤ cap ∧ cap ≤ maxLen := by
  rcases h.2 with ⟨rfl, h0⟩ | ⟨g, cap, cur, rfl, hb, hg, hnc, hcm, hcs, htake⟩
  · omega
  · exact ⟨g, cap, rfl, hb, (Array.getElem?_eq_some_iff.1 hg).1, hnc, hcm⟩

theorem Own.kept {row : Option Nat} (h : Own w B e k v xs) (hg : w.grownBy w' row) (hne : v.ownBlock = none ∨ v.ownBlock ≠ row) : Own w' B e k v xs := World.ownsRow.kept h hg hne
theorem Own.alloc (h : Own w B e k v xs) (o : Obj) : Own (w.alloc o) B e k v xs := World.ownsRow.alloc h o
theorem Own.drewN (h : Own w B e k v xs) (n : Nat) : Own (w.drewN n) B e k v xs := h
theorem Own.mono (h : Own w B e k v xs) (hb : B' ≤ B) : Own w B' e k v xs := by
  rcases h.2 with ⟨rfl, h0⟩ | ⟨g, cap, cur, rfl, hbg, hrest⟩
  · exact ⟨h.1, .inl ⟨rfl, h0⟩⟩
  · exact ⟨h.1, .inr ⟨g, cap, cur, rfl, by omega, hrest⟩⟩
theorem Own.lt (h : Own w B e k v xs) : ∀ g, v.ownBlock = some g → B ≤ g ∧ g < w.heap.size := World.ownsRow.lt h

/-- v[i] = z, v a row of the call's own. -/
theorem Own.stored {g cap n : Nat} (h : Own w B e k (.slice (some ⟨g, 0, none⟩) n cap) xs) (hn : n = xs.length) (i : Nat) (z : Int) :
    Own (w.setCell ⟨g, i, none⟩ (.int k z)) B e k (.slice (some ⟨g, 0, none⟩) n cap) (xs.set i z) ∧ w.grownBy (w.setCell ⟨g, i, none⟩ (.int k z)) (some g) := by
  subst hn
  obtain ⟨h1, h2⟩ := World.ownsRow.stored h i (.int k z)
  refine ⟨?_, h2⟩
  unfold Own
  rw [List.length_set, List.map_set]
  exact h1

theorem Own.cellAt {g cap n : Nat} (h : Own w B e k (.slice (some ⟨g, 0, none⟩) n cap) xs) (hn : n = xs.length) {i : Nat} (hi : i < xs.length) : w.cell? ⟨g, i, none⟩ = some (.int k (xs[i]?.getD 0)) := by
  subst hn
  rw [World.ownsRow.cellAt h i (by omega)]
  simp [List.getElem?_eq_getElem hi]

theorem Own.frozenAt {g cap n : Nat} (h : Own w B e k (.slice (some ⟨g, 0, none⟩) n cap) xs) (hn : n = xs.length) (i : Nat) : w.frozen? ⟨g, i, none⟩ = false := by
  subst hn
  exact World.ownsRow.frozenAt h i

theorem Own.below (h : Own w B e k v xs) (hb : Below w.heap.size w w') : Own w' B e k v xs := by
  refine h.kept (row := none) ⟨hb.os, hb.tape, hb.output, hb.size, fun g hg _ => hb.block g hg⟩ ?_
  cases hv : v.ownBlock with
  | none => exact .inl rfl
  | some g => exact .inr (by simp)

/-- Kept where all that turns lies from another row's base on. -/
theorem Own.under {C : Nat} (h : Own w B e k v xs) (hb : Below C w w') (hv : ∀ g, v.ownBlock = some g → g < C) : Own w' B e k v xs := by
  rcases h.2 with ⟨rfl, h0⟩ | ⟨g, cap, cur, rfl, hbg, hg, hnc, hcm, hcs, htake⟩
  · exact ⟨h.1, .inl ⟨rfl, h0⟩⟩
  · exact ⟨h.1, .inr ⟨g, cap, cur, rfl, hbg, (hb.block g (hv g rfl)).trans hg, hnc, hcm, hcs, htake⟩⟩

/-- Block g is just these cells of type t, none of them frozen. -/
def Block (w : World) (g : Nat) (t : TypeId) (cs : Array Value) : Prop := w.heap[g]? = some (.cells cs t (0, 0))

theorem Block.new (w : World) (t : TypeId) (cs : Array Value) : Block (w.alloc (.cells cs t)) w.heap.size t cs := heap_alloc_new w _
theorem Block.lt {g : Nat} {t : TypeId} {cs : Array Value} (h : Block w g t cs) : g < w.heap.size := (Array.getElem?_eq_some_iff.1 h).1
theorem Block.cell {g : Nat} {t : TypeId} {cs : Array Value} (h : Block w g t cs) (i : Nat) : w.cell? ⟨g, i, none⟩ = cs[i]? := cell_of_row w g i cs t (0, 0) h
theorem Block.frozen {g : Nat} {t : TypeId} {cs : Array Value} (h : Block w g t cs) (i : Nat) : w.frozen? ⟨g, i, none⟩ = false := frozen_of_row w g i cs t h
theorem Block.below {g : Nat} {t : TypeId} {cs : Array Value} (h : Block w g t cs) (hb : Below B w w') (hg : g < B) : Block w' g t cs := (hb.block g hg).trans h
theorem Block.grown {g : Nat} {t : TypeId} {cs : Array Value} {row : Option Nat} (h : Block w g t cs) (hb : w.grownBy w' row) (hg : row ≠ some g) : Block w' g t cs := (hb.block g h.lt (Ne.symm hg)).trans h
theorem Block.alloc {g : Nat} {t : TypeId} {cs : Array Value} (h : Block w g t cs) (o : Obj) : Block (w.alloc o) g t cs := (Below.heap_alloc w o g h.lt).trans h
theorem Block.drewN {g : Nat} {t : TypeId} {cs : Array Value} (h : Block w g t cs) (n : Nat) : Block (w.drewN n) g t cs := h
theorem Block.set_ {g : Nat} {t : TypeId} {cs : Array Value} (h : Block w g t cs) (i : Nat) (u : Value) : Block (w.setCell ⟨g, i, none⟩ u) g t (cs.setIfInBounds i u) := heap_setCell_same w g i cs t u h
theorem Block.far {g : Nat} {t : TypeId} {cs : Array Value} (h : Block w g t cs) {p : Addr} (hp : g ≠ p.block) (u : Value) : Block (w.setCell p u) g t cs := (Below.heap_setCell w p u g hp).trans h

/-- Rows of different types of elements never share a block. -/
theorem Own.ne_block {g : Nat} {t : TypeId} {cs : Array Value} (h : Own w B e k v xs) (hg : Block w g t cs) (hne : e ≠ t) : v.ownBlock ≠ some g := by
  rcases h.2 with ⟨rfl, _⟩ | ⟨g', cap, cur, rfl, _, hh, _⟩
  · simp [Value.ownBlock]
  · intro he
    obtain rfl : g' = g := by simpa [Value.ownBlock] using he
    unfold Block at hg
    rw [hh] at hg
    injection hg with hg
    injection hg with _ ht
    exact hne ht

theorem below_of_grown {row : Option Nat} (hg : w.grownBy w' row) (hB : B ≤ w.heap.size) (hr : ∀ g, row = some g → B ≤ g) : Below B w w' := (Below.refl B w).grown hg hB hr
end

section
variable {P : Program} (w : World)

theorem run_append_no_source (t ty e : TypeId) (i : TypeInfo) (ht : P.underlying t = some (.slice e)) (hi : P.info? e = some i) {B size : Nat}
    (v : Value) (n : Nat) (xs : List Value) (hown : w.ownsRow B e size v n xs) (c : Nat) : (Builtin.append_ #[t, t] ty #[v, .slice none 0 c]).run P w = .ok v w := by
  rcases hown.2 with ⟨rfl, _⟩ | ⟨g, cap, cur, rfl, _, _, hnc, _⟩
  · simp [Builtin.append_, run_underlying ht, sizeOf, typeInfo, hi, Builtin.lenOf, Builtin.firstCells]
  · simp [Builtin.append_, run_underlying ht, sizeOf, typeInfo, hi, Builtin.lenOf, Builtin.firstCells, hnc, storeCells]

theorem run_append_ints {t ty e : TypeId} {k : IntKind} {bytes : Nat} (he : IntElem P t e k bytes) {B B' : Nat} {v : Value} {xs ys : List Int} (hown : Own w B e k v xs)
    {A : Option Addr} (c : Nat) (hr : Holds w B' k A ys) (hsz : xs.length + ys.length ≤ 1099511627776) (hbase : B ≤ w.heap.size) :
    ∃ v' w', (Builtin.append_ #[t, t] ty #[v, .slice A ys.length c]).run P w = .ok v' w' ∧ Own w' B e k v' (xs ++ ys) ∧ w.grownBy w' v.ownBlock ∧
      (v'.ownBlock = v.ownBlock ∨ v'.ownBlock = some w.heap.size) := by
  obtain ⟨ht, hinfo, hb8⟩ := he
  obtain ⟨i, hi, hz, hs, hby⟩ := info_parts hinfo
  cases A with
  | none =>
    have h0 : ys = [] := by
      rcases Nat.eq_zero_or_pos ys.length with h | h
      · exact List.eq_nil_of_length_eq_zero h
      · obtain ⟨_, _, h', _⟩ := hr h
        cases h'
    subst h0
    exact ⟨v, w, run_append_no_source w t ty e i ht hi v _ _ hown c, by simpa using hown, World.grownBy.refl w _, .inl rfl⟩
  | some ad =>
    have hcells : ∀ j u, (ys.map (Value.int k))[j]? = some u → w.cell? (ad.add j) = some u := by
      intro j u hu
      obtain ⟨hj, rfl⟩ := get_ints hu
      obtain ⟨b, off, h', _, hc⟩ := hr (by omega)
      injection h' with h'
      subst h'
      rw [add_plain]
      exact hc j hj
    have hmul : (xs.length + ys.length) * bytes ≤ (xs.length + ys.length) * 8 := Nat.mul_le_mul_left _ hb8
    obtain ⟨v', w', hrun, h2, h3, _, h5⟩ := run_append_own_at (P := P) w B t ty e i (.int k 0) 1 bytes ht hi hz hs hby rfl (by omega) v xs.length (xs.map (Value.int k)) hown
      ad ys.length c (ys.map (Value.int k)) (by simp) hcells (ints_one k ys) (by unfold maxLen; omega) (by omega) hbase
    exact ⟨v', w', hrun, by simpa [Own] using h2, h3, h5⟩

/-- append(v, ys...): v a row of the call's own, ys any slice of the same integers. -/
theorem wpList_append_ints {ops : Array Oper} {rest : List Oper} {o : Oper} {a : Act} {Q : Exit → Act → World → Prop} (hgd : o.guard = none) (s x : Operand) (t : TypeId)
    (ho : o.op = .call { callee := .builtin .append, args := #[s, x], argTypes := #[t, t] }) {e : TypeId} {k : IntKind} {bytes : Nat} (he : IntElem P t e k bytes)
    {B B' : Nat} {v : Value} {xs ys : List Int} (hown : Own w B e k v xs) (hs : a.eval s = v)
    {A : Option Addr} {c : Nat} (hx : a.eval x = .slice A ys.length c) (hr : Holds w B' k A ys) (hsz : xs.length + ys.length ≤ 1099511627776) (hbase : B ≤ w.heap.size)
    (h : ∀ v' w', Own w' B e k v' (xs ++ ys) → w.grownBy w' v.ownBlock → Below B w w' → (v'.ownBlock = v.ownBlock ∨ v'.ownBlock = some w.heap.size) → wpList P ops Q rest (a.put o.dst v') w') :
    wpList P ops Q (o :: rest) a w := by
  refine wpList_plain hgd fun K hK => ?_
  obtain ⟨v', w', hrun, h2, h3, h4⟩ := run_append_ints (P := P) w (ty := o.type) he hown c hr hsz hbase
  unfold Oper.wp
  simp only [execOp, ho, resolve, invoke, builtin, Sem.run_bind, Sem.run_pure, Result.andThen_ok, List.map_toArray, List.map_cons, List.map_nil, hs, hx, hrun]
  exact hK _ _ (h v' w' h2 h3 (below_of_grown h3 hbase fun g hg => (hown.lt g hg).1) h4)

theorem Holds.new (w : World) (k : IntKind) (z : Int) (e : TypeId) : Holds (w.alloc (.cells #[.int k z] e)) (w.heap.size + 1) k (some ⟨w.heap.size, 0, none⟩) [z] := by
  intro _
  refine ⟨w.heap.size, 0, rfl, by omega, fun j hj => ?_⟩
  obtain rfl : j = 0 := by simpa using hj
  exact cell_of_row (w.alloc (.cells #[.int k z] e)) w.heap.size 0 #[.int k z] e (0, 0) (heap_alloc_new w _)

/-- append(v, z): v a row of the call's own; z lies alone in the newest block. -/
theorem wpList_append_one {ops : Array Oper} {rest : List Oper} {o : Oper} {a : Act} {Q : Exit → Act → World → Prop} (hgd : o.guard = none) (s x : Operand) (t : TypeId)
    (ho : o.op = .call { callee := .builtin .append, args := #[s, x], argTypes := #[t, t] }) {e : TypeId} {k : IntKind} {bytes : Nat} (he : IntElem P t e k bytes)
    {B : Nat} {v : Value} {xs : List Int} (hown : Own w B e k v xs) (hs : a.eval s = v)
    {z : Int} {c : Nat} (hx : a.eval x = .slice (some ⟨w.heap.size, 0, none⟩) 1 c) (hsz : xs.length + 1 ≤ 1099511627776) (hbase : B ≤ w.heap.size)
    (h : ∀ v' w', Own w' B e k v' (xs ++ [z]) → (w.alloc (.cells #[.int k z] e)).grownBy w' v.ownBlock → Below B w w' → wpList P ops Q rest (a.put o.dst v') w') :
    wpList P ops Q (o :: rest) a (w.alloc (.cells #[.int k z] e)) := by
  refine wpList_append_ints (ys := [z]) (B' := w.heap.size + 1) _ hgd s x t ho he (hown.alloc _) hs hx (Holds.new w k z e) (by simpa using hsz) (by simp; omega) ?_
  intro v' w' h1 h2 h3 _
  exact h v' w' h1 h2 (((Below.refl B w).alloc hbase _).trans h3)

/-- make([]T, n, m), both variables. -/
theorem wpList_make_ints {ops : Array Oper} {rest : List Oper} {o : Oper} {a : Act} {Q : Exit → Act → World → Prop} (hgd : o.guard = none) (l c : Operand) (t : TypeId)
    (ho : o.op = Op.makeSlice t l c) {e : TypeId} {k : IntKind} {bytes : Nat} (he : IntElem P t e k bytes) {kl kc : IntKind} {L C : Int} (n m : Nat)
    (hl : a.eval l = .int kl L) (hc : a.eval c = .int kc C) (hL : L = (n : Int)) (hC : C = (m : Int)) (hnm : n ≤ m) (hsz : m ≤ 1099511627776)
    (h : ∀ w', Own w' w.heap.size e k (.slice (some ⟨w.heap.size, 0, none⟩) n m) (List.replicate n 0) → Below w.heap.size w w' → w.heap.size < w'.heap.size →
      wpList P ops Q rest (a.put o.dst (.slice (some ⟨w.heap.size, 0, none⟩) n m)) w') :
    wpList P ops Q (o :: rest) a w := by
  obtain ⟨ht, hinfo, hb8⟩ := he
  obtain ⟨i, hi, hz, hs, hby⟩ := info_parts hinfo
  subst hL; subst hC
  refine wpList_plain hgd fun K hK => ?_
  have hmul : m * bytes ≤ m * 8 := Nat.mul_le_mul_left _ hb8
  have hmul2 : (bytes : Int) * (m : Int) = ((m * bytes : Nat) : Int) := by push_cast; rw [Int.mul_comm]
  have hrun := run_make (P := P) w t e i (.int k 0) ht hi hz kl kc n m (by omega) (by omega) (by rw [hby, hmul2]; omega) (by omega)
  unfold Oper.wp
  simp [execOp, ho, hl, hc, hrun, Result.andThen]
  refine hK _ _ ?_
  have hcells : (madeCells (Value.int k 0).cells ((m : Int).toNat * i.size)) = (List.replicate m (Value.int k 0)).toArray := by
    apply Array.toList_inj.1
    rw [hs, show (Value.int k 0).cells = #[Value.int k 0] from rfl, toList_madeCells_one]
    simp
  rw [Int.toNat_natCast] at hcells
  rw [hcells]
  refine h _ ⟨by simp, .inr ⟨w.heap.size, m, _, by simp, Nat.le_refl _, heap_alloc_new w _, by simpa using hnm, by unfold maxLen; omega, by simp, ?_⟩⟩ ((Below.refl _ _).alloc (Nat.le_refl _) _) (by simp)
  simp [Nat.min_eq_left hnm]

/-- copy(v, ys): v a row of the call's own, whole; ys any slice of the same integers, no longer than v. -/
theorem wpList_copy_ints {ops : Array Oper} {rest : List Oper} {o : Oper} {a : Act} {Q : Exit → Act → World → Prop} (hgd : o.guard = none) (d s : Operand) (t : TypeId)
    (ho : o.op = .call { callee := .builtin .copy, args := #[d, s], argTypes := #[t, t] }) {e : TypeId} {k : IntKind} {bytes : Nat} (he : IntElem P t e k bytes)
    {B B' : Nat} {v : Value} {xs ys : List Int} (hown : Own w B e k v xs) (hd : a.eval d = v) {A : Option Addr} {c : Nat} (hs : a.eval s = .slice A ys.length c) (hr : Holds w B' k A ys)
    (hle : ys.length ≤ xs.length) (hbase : B ≤ w.heap.size)
    (h : ∀ w', Own w' B e k v (ys ++ xs.drop ys.length) → w.grownBy w' v.ownBlock → Below B w w' → wpList P ops Q rest (a.put o.dst (goInt ys.length)) w') :
    wpList P ops Q (o :: rest) a w := by
  obtain ⟨ht, hinfo, hb8⟩ := he
  obtain ⟨i, hi, hz, hsi, hby⟩ := info_parts hinfo
  have hsz : (P.info? e).map (·.size) = some 1 := by rw [hi]; simp [hsi]
  rcases Nat.eq_zero_or_pos ys.length with h0 | h0
  · obtain rfl : ys = [] := List.eq_nil_of_length_eq_zero h0
    obtain ⟨A', cap', rfl, _⟩ := hown.opened
    refine wpList_copy_nothing hgd d s t t ho e ht hsz _ _ _ _ _ _ hd hs (by simp) ?_
    exact h w (by simpa using hown) (World.grownBy.refl w _) (Below.refl _ _)
  · obtain ⟨b, off, rfl, hb, hc⟩ := hr h0
    have hxl : xs.length ≠ 0 := by omega
    rcases hown.2 with ⟨rfl, h1⟩ | ⟨g, cap, cur, rfl, hbg, hg, hnc, hcm, hcs, htake⟩
    · omega
    · refine wpList_copy_own hgd d s t t ho e ht hsz g 0 xs.length cap ⟨b, off, none⟩ ys.length c hd hs cur e hg (ys.map (Value.int k)) (by simp [Nat.min_eq_left hle]) ?_ (by simp; omega) (ints_one k ys) ?_
      · intro j u hu
        obtain ⟨hj, rfl⟩ := get_ints hu
        rw [add_plain]
        exact hc j hj
      · have hlen : (ys ++ xs.drop ys.length).length = xs.length := by simp; omega
        have hgrown : w.grownBy (w.setRow g (cur.toList.take 0 ++ (ys.map (Value.int k) ++ cur.toList.drop (0 + (ys.map (Value.int k)).length))).toArray) (some g) :=
          ⟨rfl, rfl, rfl, by simp [World.setRow], fun j _ hj => setRow_other w g j _ (fun e => hj (by rw [e]))⟩
        rw [show goInt (ys.map (Value.int k)).length = goInt ys.length by simp]
        refine h _ ?_ hgrown (below_of_grown hgrown hbase fun g' hg' => by simp at hg'; omega)
        refine ⟨by simp, .inr ⟨g, cap, _, by rw [hlen], hbg, setRow_heap w g _ _ e _ hg, by omega, hcm, ?_, ?_⟩⟩
        · simp; omega
        · rw [hlen]
          simp only [Nat.mul_one] at htake ⊢
          simp only [List.take_zero, List.nil_append, Nat.zero_add, List.length_map, List.map_append, List.map_drop]
          rw [List.take_append, List.length_map, List.take_of_length_le (by simp; omega), ← htake, List.drop_take]
end
end Go.Proofs.YtpnodocjpedcmaaDoor.Kit

namespace Go.Proofs.YtpnodocjpedcmaaDoor.Kit
open Go.ChangeShapes Go.WideShapes Go.ChangeAt Go.RowKit

/-- From w to w' nothing has turned but blocks in S and new ones. -/
structure TurnsIn (S : Nat → Prop) (w w' : World) : Prop where
  os : w'.os = w.os
  tape : w'.tape = w.tape
  output : w'.output = w.output
  size : w.heap.size ≤ w'.heap.size
  block : ∀ b, b < w.heap.size → ¬ S b → w'.heap[b]? = w.heap[b]?

section
variable {S T : Nat → Prop} {w w' w1 w2 : World} {B : Nat} {e : TypeId} {k : IntKind} {v : Value} {xs : List Int}

theorem TurnsIn.refl (S : Nat → Prop) (w : World) : TurnsIn S w w := ⟨rfl, rfl, rfl, Nat.le_refl _, fun _ _ _ => rfl⟩
theorem TurnsIn.trans (h : TurnsIn S w w1) (g : TurnsIn S w1 w2) : TurnsIn S w w2 :=
  ⟨g.os.trans h.os, g.tape.trans h.tape, g.output.trans h.output, Nat.le_trans h.size g.size, fun b hb hs => (g.block b (Nat.lt_of_lt_of_le hb h.size) hs).trans (h.block b hb hs)⟩
/-- The second step may turn what is new in the first one, too. -/
theorem TurnsIn.then_ (h : TurnsIn S w w1) (g : TurnsIn T w1 w2) (hT : ∀ b, b < w.heap.size → T b → S b) : TurnsIn S w w2 :=
  ⟨g.os.trans h.os, g.tape.trans h.tape, g.output.trans h.output, Nat.le_trans h.size g.size, fun b hb hs => (g.block b (Nat.lt_of_lt_of_le hb h.size) (fun ht => hs (hT b hb ht))).trans (h.block b hb hs)⟩
theorem TurnsIn.mono (h : TurnsIn S w w') (hT : ∀ b, b < w.heap.size → S b → T b) : TurnsIn T w w' := ⟨h.os, h.tape, h.output, h.size, fun b hb hs => h.block b hb (fun hx => hs (hT b hb hx))⟩
theorem TurnsIn.ofBelow (h : Below B w w') (hs : ∀ b, b < w.heap.size → B ≤ b → S b) : TurnsIn S w w' :=
  ⟨h.os, h.tape, h.output, h.size, fun b hb hn => h.block b (Nat.lt_of_not_le fun hle => hn (hs b hb hle))⟩
theorem TurnsIn.ofNew (h : Below w.heap.size w w') : TurnsIn S w w' := .ofBelow h fun b hb hle => absurd hb (by omega)
theorem TurnsIn.ofGrown {row : Option Nat} (h : w.grownBy w' row) (hs : ∀ b, row = some b → S b) : TurnsIn S w w' :=
  ⟨h.os, h.tape, h.output, h.size, fun b hb hn => h.block b hb fun he => hn (hs b he.symm)⟩
theorem TurnsIn.toBelow (h : TurnsIn S w w') (hB : B ≤ w.heap.size) (hs : ∀ b, b < B → ¬ S b) : Below B w w' :=
  ⟨h.os, h.tape, h.output, h.size, fun b hb => h.block b (by omega) (hs b hb)⟩
theorem TurnsIn.drewN (h : TurnsIn S w w') (n : Nat) : TurnsIn S w (w'.drewN n) := ⟨h.os, h.tape, h.output, h.size, h.block⟩
theorem TurnsIn.alloc (h : TurnsIn S w w') (o : Obj) : TurnsIn S w (w'.alloc o) :=
  ⟨h.os, h.tape, h.output, Nat.le_trans h.size (by simp), fun b hb hn => (Below.heap_alloc w' o b (Nat.lt_of_lt_of_le hb h.size)).trans (h.block b hb hn)⟩
theorem TurnsIn.setCell (h : TurnsIn S w w') {p : Addr} (hp : S p.block ∨ w.heap.size ≤ p.block) (u : Value) : TurnsIn S w (w'.setCell p u) :=
  ⟨h.os, h.tape, h.output, by simpa [World.setCell] using h.size, fun b hb hn => (Below.heap_setCell w' p u b (by
    rintro rfl
    rcases hp with hp | hp
    · exact hn hp
    · omega)).trans (h.block b hb hn)⟩

theorem Own.out (h : Own w B e k v xs) (ho : TurnsIn S w w') (hv : ∀ g, v.ownBlock = some g → ¬ S g) : Own w' B e k v xs := by
  rcases h.2 with ⟨rfl, h0⟩ | ⟨g, cap, cur, rfl, hbg, hg, hnc, hcm, hcs, htake⟩
  · exact ⟨h.1, .inl ⟨rfl, h0⟩⟩
  · exact ⟨h.1, .inr ⟨g, cap, cur, rfl, hbg, (ho.block g (Array.getElem?_eq_some_iff.1 hg).1 (hv g rfl)).trans hg, hnc, hcm, hcs, htake⟩⟩
theorem Block.out {g : Nat} {t : TypeId} {cs : Array Value} (h : Block w g t cs) (ho : TurnsIn S w w') (hg : ¬ S g) : Block w' g t cs := (ho.block g h.lt hg).trans h
theorem Holds.out {A : Option Addr} (h : Holds w B k A xs) (ho : TurnsIn S w w') (hB : B ≤ w.heap.size) (hs : ∀ b, b < B → ¬ S b) : Holds w' B k A xs := h.below (ho.toBelow hB hs)

/-- What turned keeps a block's kind of row: a row that grew lies where it lay, or is new. -/
def Newer (w : World) (v v' : Value) : Prop := v'.ownBlock = v.ownBlock ∨ ∀ g, v'.ownBlock = some g → w.heap.size ≤ g
theorem Newer.refl (w : World) (v : Value) : Newer w v v := .inl rfl
theorem Newer.trans {v1 v2 : Value} (h : Newer w v v1) (hs : w.heap.size ≤ w1.heap.size) (g : Newer w1 v1 v2) : Newer w v v2 := by
  rcases g with g | g
  · rcases h with h | h
    · exact .inl (g.trans h)
    · exact .inr fun x hx => h x (g ▸ hx)
  · exact .inr fun x hx => Nat.le_trans hs (g x hx)
theorem Newer.ofApp {v' : Value} (h : v'.ownBlock = v.ownBlock ∨ v'.ownBlock = some w.heap.size) : Newer w v v' := by
  rcases h with h | h
  · exact .inl h
  · exact .inr fun g hg => by rw [h] at hg; injection hg with hg; omega
/-- A row of one's own that lies apart from another one stays apart. -/
theorem Newer.apart {v' u : Value} {g : Nat} (h : Newer w v v') (hu : u.ownBlock = some g) (hl : g < w.heap.size) (hn : v.ownBlock ≠ some g) : v'.ownBlock ≠ some g := by
  rcases h with h | h
  · rw [h]; exact hn
  · intro he; have := h g he; omega
end

/-- append(v, ys...), as one step of a region that draws its order. -/
theorem step_append_ints {P : Program} {ops : Array Oper} {o : Oper} {a : Act} {w : World} {K : Act → World → Prop} {Q : Exit → Act → World → Prop} {E : Prop}
    (hg : o.guard = none) (s x : Operand) (t : TypeId) (ho : o.op = Op.call { callee := Callee.builtin Builtin.append, args := #[s, x], argTypes := #[t, t] })
    {e : TypeId} {k : IntKind} {bytes : Nat} (he : IntElem P t e k bytes) {B B' : Nat} {v : Value} {xs ys : List Int} (hown : Own w B e k v xs) (hs : a.eval s = v)
    {A : Option Addr} {c : Nat} (hx : a.eval x = .slice A ys.length c) (hr : Holds w B' k A ys) (hsz : xs.length + ys.length ≤ 1099511627776) (hbase : B ≤ w.heap.size)
    (hK : ∀ v' w', Own w' B e k v' (xs ++ ys) → w.grownBy w' v.ownBlock → Below B w w' → (v'.ownBlock = v.ownBlock ∨ v'.ownBlock = some w.heap.size) → K (a.put o.dst v') w') :
    if Region.wanted o (yielded ops a.tmps) = true then Oper.wp P o a w K Q else E := by
  have hw : Region.wanted o (yielded ops a.tmps) = true := by simp [Region.wanted, hg]
  rw [if_pos hw]
  obtain ⟨v', w', hrun, h2, h3, h4⟩ := run_append_ints (P := P) w (ty := o.type) he hown c hr hsz hbase
  unfold Oper.wp
  simp [execOp, ho, resolve, invoke, builtin, hs, hx, hrun, Result.andThen]
  exact hK _ _ h2 h3 (below_of_grown h3 hbase fun g hg => (hown.lt g hg).1) h4

/-- append(v, z), z alone in the newest block, as one step of a region that draws its order; a block of other cells stays as it is. -/
theorem step_append_one {P : Program} {ops : Array Oper} {o : Oper} {a : Act} {w : World} {K : Act → World → Prop} {Q : Exit → Act → World → Prop} {E : Prop}
    (hg : o.guard = none) (s x : Operand) (t : TypeId) (ho : o.op = Op.call { callee := Callee.builtin Builtin.append, args := #[s, x], argTypes := #[t, t] })
    {e : TypeId} {k : IntKind} {bytes : Nat} (he : IntElem P t e k bytes) {B : Nat} {v : Value} {xs : List Int} {z : Int} (hown : Own w B e k v xs) (hs : a.eval s = v)
    {c : Nat} (hx : a.eval x = .slice (some ⟨w.heap.size, 0, none⟩) 1 c) (hsz : xs.length + 1 ≤ 1099511627776) (hbase : B ≤ w.heap.size)
    {g : Nat} {tg : TypeId} {cs : Array Value} (hblk : Block w g tg cs) (hne : e ≠ tg)
    (hK : ∀ A' c' w', Own w' B e k (.slice A' (xs.length + 1) c') (xs ++ [z]) → TurnsIn (fun b => v.ownBlock = some b) w w' → Newer w v (.slice A' (xs.length + 1) c') → Block w' g tg cs → K (a.put o.dst (.slice A' (xs.length + 1) c')) w') :
    if Region.wanted o (yielded ops a.tmps) = true then Oper.wp P o a (w.alloc (.cells #[.int k z] e)) K Q else E := by
  refine step_append_ints (ys := [z]) hg s x t ho he (hown.alloc _) hs hx (Holds.new w k z e) (by simpa using hsz) (by simp; omega) ?_
  intro v' w' h1 h2 h3 h4
  obtain ⟨A', c', rfl, _, _, _⟩ := h1.opened
  have hlen : (xs ++ [z]).length = xs.length + 1 := by simp
  have hk := hK A' c' w'
  rw [hlen] at h1 h4
  rw [hlen]
  refine hk h1 (((TurnsIn.refl _ w).alloc _).trans (.ofGrown h2 fun b hb => hb)) ?_ ((hblk.alloc _).grown h2 (hown.ne_block hblk hne))
  rcases h4 with h4 | h4
  · exact .inl h4
  · exact .inr fun g hg => by rw [h4] at hg; simp at hg; omega

/-- The same behind the region's draw. -/
theorem step_append_one_drew {P : Program} {ops : Array Oper} {o : Oper} {a : Act} {w : World} {K : Act → World → Prop} {Q : Exit → Act → World → Prop} {E : Prop}
    (hg : o.guard = none) (s x : Operand) (t : TypeId) (ho : o.op = Op.call { callee := Callee.builtin Builtin.append, args := #[s, x], argTypes := #[t, t] })
    {e : TypeId} {k : IntKind} {bytes : Nat} (he : IntElem P t e k bytes) {B : Nat} {v : Value} {xs : List Int} {z : Int} (hown : Own w B e k v xs) (hs : a.eval s = v)
    {c : Nat} (hx : a.eval x = .slice (some ⟨w.heap.size, 0, none⟩) 1 c) (hsz : xs.length + 1 ≤ 1099511627776) (hbase : B ≤ w.heap.size)
    {g : Nat} {tg : TypeId} {cs : Array Value} (hblk : Block w g tg cs) (hne : e ≠ tg)
    (hK : ∀ A' c' w', Own w' B e k (.slice A' (xs.length + 1) c') (xs ++ [z]) → TurnsIn (fun b => v.ownBlock = some b) w w' → Newer w v (.slice A' (xs.length + 1) c') → Block w' g tg cs → K (a.put o.dst (.slice A' (xs.length + 1) c')) w') :
    if Region.wanted o (yielded ops a.tmps) = true then Oper.wp P o a (w.alloc (.cells #[.int k z] e)).drew K Q else E := by
  have h := step_append_one (E := E) (K := K) (Q := Q) (ops := ops) (w := w.drew) (z := z) hg s x t ho he (by exact hown) hs hx hsz hbase (by exact hblk) hne
    (fun A' c' w' h1 h2 h3 h4 => hK A' c' w' h1 ⟨h2.os, h2.tape, h2.output, h2.size, h2.block⟩ h3 h4)
  exact h
end Go.Proofs.YtpnodocjpedcmaaDoor.Kit

namespace Go.Proofs.YtpnodocjpedcmaaDoor.Sec
open Go.ChangeShapes Go.WideShapes Go.ChangeAt Go.RowKit Go.Proofs.YtpnodocjpedcmaaDoor.Kit Go.Maps

/-- Sectors: their numbers, rising; the bytes of each, or none, where it is torn. -/
abbrev Sl := List (Int × Option (List Int))
def putS : Sl → Int → Option (List Int) → Sl
  | [], k, o => [(k, o)]
  | (j, u) :: r, k, o => if k < j then (k, o) :: (j, u) :: r else if k = j then (k, o) :: r else (j, u) :: putS r k o
def getS : Sl → Int → Option (Option (List Int))
  | [], _ => none
  | (j, u) :: r, k => if j = k then some u else getS r k
def Up (l : Sl) : Prop := l.Pairwise (fun p q => p.1 < q.1)

theorem mem_putS {l : Sl} {k : Int} {o : Option (List Int)} {p : Int × Option (List Int)} (h : p ∈ putS l k o) : p = (k, o) ∨ p ∈ l := by
  induction l with
  | nil => simp [putS] at h; exact Or.inl h
  | cons q r ih =>
    obtain ⟨j, u⟩ := q
    unfold putS at h
    split at h
    · rcases List.mem_cons.1 h with h | h
      · exact Or.inl h
      · exact Or.inr h
    · split at h
      · rcases List.mem_cons.1 h with h | h
        · exact Or.inl h
        · exact Or.inr (List.mem_cons_of_mem _ h)
      · rcases List.mem_cons.1 h with h | h
        · exact Or.inr (h ▸ List.mem_cons_self)
        · rcases ih h with h | h
          · exact Or.inl h
          · exact Or.inr (List.mem_cons_of_mem _ h)
theorem up_nil : Up [] := List.Pairwise.nil
theorem Up.putS {l : Sl} (h : Up l) (k : Int) (o : Option (List Int)) : Up (putS l k o) := by
  induction l with
  | nil => exact List.pairwise_singleton _ _
  | cons q r ih =>
    obtain ⟨j, u⟩ := q
    obtain ⟨h1, h2⟩ := List.pairwise_cons.1 h
    unfold Sec.putS
    split
    · rename_i hk
      exact List.pairwise_cons.2 ⟨fun p hp => by
        rcases List.mem_cons.1 hp with rfl | hp
        · exact hk
        · have : j < p.1 := h1 p hp
          show k < p.1
          omega, h⟩
    · split
      · rename_i hk
        exact List.pairwise_cons.2 ⟨fun p hp => by have : j < p.1 := h1 p hp; show k < p.1; omega, h2⟩
      · exact List.pairwise_cons.2 ⟨fun p hp => by
          rcases mem_putS hp with rfl | hp
          · show j < k; omega
          · exact h1 p hp, ih h2⟩
theorem up_length {c : Int} : ∀ (l : Sl) (a : Int), Up l → (∀ p ∈ l, a ≤ p.1 ∧ p.1 < c) → (l.length : Int) ≤ max (c - a) 0
  | [], _, _, _ => by simp; omega
  | q :: r, a, h, hb => by
    obtain ⟨h1, h2⟩ := List.pairwise_cons.1 h
    have hq := hb q (by simp)
    have := up_length r (q.1 + 1) h2 (fun p hp => ⟨by have : q.1 < p.1 := h1 p hp; omega, (hb p (List.mem_cons_of_mem _ hp)).2⟩)
    simp only [List.length_cons, Int.natCast_add]
    omega

/-! ### in memory -/
def codeS (g m c : Nat) : DataW Unit := .agg [.lit (.int .i64 g), .lit (.int .i64 m), .lit (.int .i64 c)]
/-- How the bytes of a sector that waits read. -/
def RW (v : Value) : Option (DataW Unit × List MemPlace) :=
  match v with
  | .slice (some ⟨g, 0, none⟩) m c => some (codeS g m c, [])
  | .slice none 0 0 => some (.lit (.bool false), [])
  | _ => none
/-- How what is kept of a sector reads. -/
def RK (v : Value) : Option (DataW Unit × List MemPlace) :=
  match v with
  | .agg cs =>
    match cs.toList with
    | [.slice (some ⟨g, 0, none⟩) m c, .bool false] => some (codeS g m c, [])
    | [.slice none 0 0, .bool t] => some (.lit (.bool t), [])
    | _ => none
  | _ => none
theorem codeS_inj {g m c g' m' c' : Nat} (h : codeS g m c = codeS g' m' c') : g = g' ∧ m = m' ∧ c = c' := by
  unfold codeS at h
  simp at h
  omega
theorem RW_some {v : Value} {g m c : Nat} {ps : List MemPlace} (h : RW v = some (codeS g m c, ps)) : v = .slice (some ⟨g, 0, none⟩) m c := by
  unfold RW at h
  split at h
  · simp only [Option.some.injEq, Prod.mk.injEq] at h
    obtain ⟨rfl, rfl, rfl⟩ := codeS_inj h.1
    rfl
  · simp [codeS] at h
  · cases h
theorem RW_none {v : Value} {ps : List MemPlace} (h : RW v = some (.lit (.bool false), ps)) : v = .slice none 0 0 := by
  unfold RW at h
  split at h
  · simp [codeS] at h
  · rfl
  · cases h
theorem RK_some {v : Value} {g m c : Nat} {ps : List MemPlace} (h : RK v = some (codeS g m c, ps)) : v = .agg #[.slice (some ⟨g, 0, none⟩) m c, .bool false] := by
  unfold RK at h
  split at h
  · rename_i cs
    split at h
    · rename_i h2
      simp only [Option.some.injEq, Prod.mk.injEq] at h
      obtain ⟨rfl, rfl, rfl⟩ := codeS_inj h.1
      congr 1
      exact Array.toList_inj.1 h2
    · simp [codeS] at h
    · cases h
  · cases h
theorem RK_lit {v : Value} {t : Bool} {ps : List MemPlace} (h : RK v = some (.lit (.bool t), ps)) : v = .agg #[.slice none 0 0, .bool t] := by
  unfold RK at h
  split at h
  · rename_i cs
    split at h
    · simp [codeS] at h
    · rename_i h2
      simp only [Option.some.injEq, Prod.mk.injEq, DataW.lit.injEq, Lit.bool.injEq] at h
      obtain ⟨rfl, _⟩ := h
      congr 1
      exact Array.toList_inj.1 h2
    · cases h
  · cases h

/-- An entry of a map is a sector of the list. -/
def Tie (w : World) (I : Nat → Prop) (n : Nat) (p : Lit × DataW Unit) (q : Int × Option (List Int)) : Prop :=
  p.1 = .int .i64 q.1 ∧ match q.2 with
    | some xs => ∃ g c, p.2 = codeS g n c ∧ xs.length = n ∧ Octets xs ∧ I g ∧ Own w 0 5 .u8 (.slice (some ⟨g, 0, none⟩) n c) xs
    | none => p.2 = .lit (.bool true)
inductive Ties (w : World) (I : Nat → Prop) (n : Nat) : List (Lit × DataW Unit) → Sl → Prop
  | nil : Ties w I n [] []
  | cons {p q es l} : Tie w I n p q → Ties w I n es l → Ties w I n (p :: es) (q :: l)
theorem Ties.length {w : World} {I : Nat → Prop} {n : Nat} {es : List (Lit × DataW Unit)} {l : Sl} (h : Ties w I n es l) : es.length = l.length := by
  induction h with
  | nil => rfl
  | cons _ _ ih => simp [ih]

theorem same_int (j k : Int) : (Lit.int .i64 j).sameKey (.int .i64 k) = decide (j = k) := by simp [Lit.sameKey]
theorem before_int (j k : Int) : (Lit.int .i64 j).before (.int .i64 k) = decide (j < k) := rfl

/-- Where all numbers are above k, no entry is k's. -/
theorem Ties.none_same {w : World} {I : Nat → Prop} {n : Nat} {es : List (Lit × DataW Unit)} {l : Sl} (h : Ties w I n es l) (k : Int) (hk : ∀ p ∈ l, k < p.1) : es.filter (fun p => !p.1.sameKey (.int .i64 k)) = es := by
  induction h with
  | nil => rfl
  | @cons p q es l ht _ ih =>
    have hq := hk q (by simp)
    rw [List.filter_cons, ht.1, same_int, decide_eq_false (by omega), ih (fun x hx => hk x (List.mem_cons_of_mem _ hx))]
    rfl
theorem Ties.insert_front {w : World} {I : Nat → Prop} {n : Nat} {es : List (Lit × DataW Unit)} {l : Sl} (h : Ties w I n es l) (k : Int) (d : DataW Unit) (hk : ∀ p ∈ l, k < p.1) : DataW.insert (.int .i64 k, d) es = (.int .i64 k, d) :: es := by
  cases h with
  | nil => rfl
  | @cons p q es l ht _ =>
    have hq := hk q (by simp)
    unfold DataW.insert
    rw [ht.1]
    rw [before_int, decide_eq_true hq]
    rfl

theorem Ties.put {w : World} {I : Nat → Prop} {n : Nat} {es : List (Lit × DataW Unit)} {l : Sl} (h : Ties w I n es l) (hu : Up l) (k : Int) (d : DataW Unit) (o : Option (List Int)) (ht : Tie w I n (.int .i64 k, d) (k, o)) :
    Ties w I n (DataW.insert (.int .i64 k, d) (es.filter fun p => !p.1.sameKey (.int .i64 k))) (putS l k o) := by
  induction h with
  | nil => exact .cons ht .nil
  | @cons p q es l hp hr ih =>
    obtain ⟨j, u⟩ := q
    obtain ⟨h1, h2⟩ := List.pairwise_cons.1 hu
    have hp1 : p.1 = .int .i64 j := hp.1
    rw [List.filter_cons, hp1, same_int]
    unfold putS
    by_cases c1 : k < j
    · rw [if_pos c1, decide_eq_false (by omega), hr.none_same k (fun x hx => by have : j < x.1 := h1 x hx; omega)]
      show Ties w I n (DataW.insert _ (p :: es)) _
      unfold DataW.insert
      rw [hp1, before_int, decide_eq_true c1]
      exact .cons ht (.cons hp hr)
    · by_cases c2 : k = j
      · rw [if_neg c1, if_pos c2, decide_eq_true c2.symm, hr.none_same k (fun x hx => by have : j < x.1 := h1 x hx; omega)]
        show Ties w I n (DataW.insert _ es) _
        rw [hr.insert_front k d (fun x hx => by have : j < x.1 := h1 x hx; omega)]
        exact .cons ht hr
      · rw [if_neg c1, if_neg c2, decide_eq_false (fun e => c2 e.symm)]
        show Ties w I n (DataW.insert _ (p :: _)) _
        unfold DataW.insert
        rw [hp1, before_int, decide_eq_false (by omega)]
        exact .cons hp (ih h2)

theorem atKey_map (es : List (Lit × DataW Unit)) (k : Lit) (z : DataW Unit) : (DataW.map es).atKey k z = ((es.find? (fun p => p.1.sameKey k)).map (·.2)).getD z := by
  unfold DataW.atKey
  simp only
  split
  · rename_i h; rw [h]; rfl
  · rename_i h; rw [h]; rfl

theorem Ties.get_yes {w : World} {I : Nat → Prop} {n : Nat} {es : List (Lit × DataW Unit)} {l : Sl} (h : Ties w I n es l) (k : Int) (o : Option (List Int)) (hg : getS l k = some o) :
    Maps.has (.map es) (.int .i64 k) = true ∧ ∃ d, (∀ z, (DataW.map es).atKey (.int .i64 k) z = d) ∧ Tie w I n (.int .i64 k, d) (k, o) := by
  induction h with
  | nil => cases hg
  | @cons p q es l hp hr ih =>
    obtain ⟨j, u⟩ := q
    have hp1 : p.1 = .int .i64 j := hp.1
    unfold getS at hg
    rw [Maps.has_eq, List.any_cons, hp1, same_int]
    by_cases c : j = k
    · subst c
      rw [if_pos rfl] at hg
      injection hg with hg
      subst hg
      refine ⟨by simp, p.2, fun z => ?_, by rw [← hp1]; exact hp⟩
      rw [atKey_map, List.find?_cons, hp1, same_int]
      simp
    · rw [if_neg c] at hg
      obtain ⟨h1, d, h2, h3⟩ := ih hg
      rw [Maps.has_eq] at h1
      refine ⟨by rw [h1]; simp, d, fun z => ?_, h3⟩
      rw [atKey_map, List.find?_cons, hp1, same_int, decide_eq_false c, ← h2 z, atKey_map]
theorem Ties.get_no {w : World} {I : Nat → Prop} {n : Nat} {es : List (Lit × DataW Unit)} {l : Sl} (h : Ties w I n es l) (k : Int) (hg : getS l k = none) :
    Maps.has (.map es) (.int .i64 k) = false ∧ ∀ z, (DataW.map es).atKey (.int .i64 k) z = z := by
  induction h with
  | nil => exact ⟨rfl, fun _ => rfl⟩
  | @cons p q es l hp hr ih =>
    obtain ⟨j, u⟩ := q
    have hp1 : p.1 = .int .i64 j := hp.1
    unfold getS at hg
    rw [Maps.has_eq, List.any_cons, hp1, same_int]
    by_cases c : j = k
    · rw [if_pos c] at hg; cases hg
    · rw [if_neg c] at hg
      obtain ⟨h1, h2⟩ := ih hg
      rw [Maps.has_eq] at h1
      refine ⟨by rw [h1]; simp [c], fun z => ?_⟩
      rw [atKey_map, List.find?_cons, hp1, same_int, decide_eq_false c]
      have := h2 z
      rw [atKey_map] at this
      exact this

/-- The rows of a list stay, where no map or other block of the call's own is a row. -/
theorem Tie.out {S : Nat → Prop} {w w' : World} {I : Nat → Prop} {n : Nat} {p : Lit × DataW Unit} {q : Int × Option (List Int)} (h : Tie w I n p q) (t : TurnsIn S w w') (hS : ∀ b, S b → I b → ∀ cs f, w.heap[b]? ≠ some (.cells cs 5 f)) : Tie w' I n p q := by
  obtain ⟨h1, h2⟩ := h
  refine ⟨h1, ?_⟩
  cases hq : q.2 with
  | none => rw [hq] at h2; exact h2
  | some xs =>
    rw [hq] at h2
    obtain ⟨g, c, e1, e2, e3, eI, e4⟩ := h2
    refine ⟨g, c, e1, e2, e3, eI, e4.out t fun x hx hs => ?_⟩
    have hxg : g = x := by simpa [Value.ownBlock] using hx
    subst hxg
    rcases e4.2 with ⟨h0, _⟩ | ⟨g', cap, cur, he, _, hg, _⟩
    · cases h0
    · injection he with he _
      injection he with he
      injection he with he
      exact hS g hs eI _ _ (he ▸ hg)
theorem Ties.out {S : Nat → Prop} {w w' : World} {I : Nat → Prop} {n : Nat} {es : List (Lit × DataW Unit)} {l : Sl} (h : Ties w I n es l) (t : TurnsIn S w w') (hS : ∀ b, S b → I b → ∀ cs f, w.heap[b]? ≠ some (.cells cs 5 f)) : Ties w' I n es l := by
  induction h with
  | nil => exact .nil
  | cons hp _ ih => exact .cons (hp.out t hS) ih
theorem Tie.mono {w : World} {I J : Nat → Prop} {n : Nat} {p : Lit × DataW Unit} {q : Int × Option (List Int)} (h : Tie w I n p q) (hJ : ∀ g, g < w.heap.size → I g → J g) : Tie w J n p q := by
  obtain ⟨h1, h2⟩ := h
  refine ⟨h1, ?_⟩
  cases hq : q.2 with
  | none => rw [hq] at h2; exact h2
  | some xs =>
    rw [hq] at h2
    obtain ⟨g, c, e1, e2, e3, eI, e4⟩ := h2
    exact ⟨g, c, e1, e2, e3, hJ g (e4.lt g rfl).2 eI, e4⟩
theorem Ties.mono {w : World} {I J : Nat → Prop} {n : Nat} {es : List (Lit × DataW Unit)} {l : Sl} (h : Ties w I n es l) (hJ : ∀ g, g < w.heap.size → I g → J g) : Ties w J n es l := by
  induction h with
  | nil => exact .nil
  | cons hp _ ih => exact .cons (hp.mono hJ) ih
end Go.Proofs.YtpnodocjpedcmaaDoor.Sec

namespace Go.Proofs.YtpnodocjpedcmaaDoor.Sec
open Go.ChangeShapes Go.WideShapes Go.ChangeAt Go.RowKit Go.Proofs.YtpnodocjpedcmaaDoor.Kit Go.Maps

theorem len_ok {n : Nat} (h : n < 1000000000) : n < maxLen := by unfold maxLen; omega
theorem keyI : Keyed Tryd.prog 3 := int_keyed Tryd.underlying3
theorem key_of {k : Int} (h : -9223372036854775808 ≤ k ∧ k ≤ 9223372036854775807) : keyOf Tryd.prog 3 (.int .i64 k) = some (.int .i64 k) :=
  keyOf_int_mk Tryd.underlying3 (WalkArith.wf_i64 h)
theorem zeroW (w : World) : (zeroValue 22).run Tryd.prog w = .ok (.slice none 0 0) w := by kernel_rfl
theorem zeroK (w : World) : (zeroValue 103).run Tryd.prog w = .ok (.agg #[.slice none 0 0, .bool false]) w := by kernel_rfl
theorem RW_zero : RW (.slice none 0 0) = some (.lit (.bool false), []) := rfl
theorem RK_zero : RK (.agg #[.slice none 0 0, .bool false]) = some (.lit (.bool false), []) := rfl

/-- Block b is a map of these sectors, all of n bytes. -/
def MapAt (w : World) (I : Nat → Prop) (R : Value → Option (DataW Unit × List MemPlace)) (b n : Nat) (l : Sl) : Prop :=
  ∃ es, w.ownsMap Tryd.prog 3 R b l.length (.map es) ∧ Ties w I n es l
theorem MapAt.mono {w : World} {I J : Nat → Prop} {R : Value → Option (DataW Unit × List MemPlace)} {b n : Nat} {l : Sl} (h : MapAt w I R b n l) (hJ : ∀ g, g < w.heap.size → I g → J g) : MapAt w J R b n l := by
  obtain ⟨es, h1, h2⟩ := h
  exact ⟨es, h1, h2.mono hJ⟩
theorem MapAt.lt {w : World} {I : Nat → Prop} {R : Value → Option (DataW Unit × List MemPlace)} {b n : Nat} {l : Sl} (h : MapAt w I R b n l) : b < w.heap.size := by
  obtain ⟨es, h1, _⟩ := h
  exact h1.lt
theorem MapAt.no_row {w : World} {I : Nat → Prop} {R : Value → Option (DataW Unit × List MemPlace)} {b n : Nat} {l : Sl} (h : MapAt w I R b n l) (cs : Array Value) (t : TypeId) (f : Nat × Nat) : w.heap[b]? ≠ some (.cells cs t f) := by
  obtain ⟨es, ⟨e1, c1, h1, _⟩, _⟩ := h
  rw [h1]
  intro e
  injection e with e
  cases e
theorem ownsMap_tight {w : World} {R : Value → Option (DataW Unit × List MemPlace)} {b n : Nat} {es : List (Lit × DataW Unit)} (h : w.ownsMap Tryd.prog 3 R b n (.map es)) : w.ownsMap Tryd.prog 3 R b es.length (.map es) := by
  obtain ⟨e1, c1, h1, F, hs, hD⟩ := h
  refine ⟨e1, c1, h1, F, ?_, hD⟩
  injection hD with hD
  rw [hD, length_sorted]
  simp
theorem MapAt.of {w : World} {I : Nat → Prop} {R : Value → Option (DataW Unit × List MemPlace)} {b n N : Nat} {es : List (Lit × DataW Unit)} {l : Sl} (h : w.ownsMap Tryd.prog 3 R b N (.map es)) (t : Ties w I n es l) : MapAt w I R b n l := by
  refine ⟨es, ?_, t⟩
  have := ownsMap_tight h
  rw [t.length] at this
  exact this
theorem MapAt.made (w : World) (I : Nat → Prop) (R : Value → Option (DataW Unit × List MemPlace)) (n : Nat) : MapAt (w.alloc (.map #[] 0)) I R w.heap.size n [] :=
  ⟨[], World.ownsMap_made _ _ _ _, .nil⟩
/-- A map stays while other blocks, none of them a row of bytes, turn. -/
theorem MapAt.out {S : Nat → Prop} {w w' : World} {I : Nat → Prop} {R : Value → Option (DataW Unit × List MemPlace)} {b n : Nat} {l : Sl} (h : MapAt w I R b n l) (t : TurnsIn S w w') (hb : ¬ S b) (hS : ∀ b, S b → I b → ∀ cs f, w.heap[b]? ≠ some (.cells cs 5 f)) : MapAt w' I R b n l := by
  obtain ⟨es, ⟨e1, c1, h1, r⟩, h2⟩ := h
  exact ⟨es, ⟨e1, c1, (t.block b (Array.getElem?_eq_some_iff.1 h1).1 hb).trans h1, r⟩, h2.out t hS⟩

/-- The block of a row of bytes is no map. -/
theorem row_not_map {w : World} {I : Nat → Prop} {R : Value → Option (DataW Unit × List MemPlace)} {b n : Nat} {l : Sl} (h : MapAt w I R b n l) : ∀ x, x = b → ∀ cs f, w.heap[x]? ≠ some (.cells cs 5 f) := by
  rintro x rfl cs f
  exact h.no_row cs _ f

section
variable {w : World} {I : Nat → Prop} {b n : Nat} {l : Sl}

theorem MapAt.look_yes (h : MapAt w I RW b n l) (k : Int) (hk : -9223372036854775808 ≤ k ∧ k ≤ 9223372036854775807) (xs : List Int) (hg : getS l k = some (some xs)) (c : Bool) :
    ∃ g m, (Instr.lookup 89 (.map (some b)) (.int .i64 k) c).run Tryd.prog w = .ok (if c then .tuple #[.slice (some ⟨g, 0, none⟩) n m, .bool true] else .slice (some ⟨g, 0, none⟩) n m) w ∧ xs.length = n ∧ Octets xs ∧ I g ∧ Own w 0 5 .u8 (.slice (some ⟨g, 0, none⟩) n m) xs := by
  obtain ⟨es, h1, h2⟩ := h
  obtain ⟨a1, d, a2, _, a3⟩ := h2.get_yes k _ hg
  obtain ⟨g, m, e1, e2, e3, eI, e4⟩ := a3
  obtain ⟨v, ps, hr, hv⟩ := h1.look_ok keyI Tryd.underlying89 (zeroW w) RW_zero (key_of hk)
  obtain ⟨v', ps', hr', hv'⟩ := h1.lookup keyI Tryd.underlying89 (zeroW w) RW_zero (key_of hk)
  rw [a2] at hv hv'
  change d = codeS g n m at e1
  subst e1
  obtain rfl := RW_some hv
  obtain rfl := RW_some hv'
  refine ⟨g, m, ?_, e2, e3, eI, e4⟩
  cases c with
  | true => rw [hr, a1]; rfl
  | false => rw [hr']; rfl
theorem MapAt.look_no (h : MapAt w I RW b n l) (k : Int) (hk : -9223372036854775808 ≤ k ∧ k ≤ 9223372036854775807) (hg : getS l k = none) :
    (Instr.lookup 89 (.map (some b)) (.int .i64 k) true).run Tryd.prog w = .ok (.tuple #[.slice none 0 0, .bool false]) w := by
  obtain ⟨es, h1, h2⟩ := h
  obtain ⟨a1, a2⟩ := h2.get_no k hg
  obtain ⟨v, ps, hr, hv⟩ := h1.look_ok keyI Tryd.underlying89 (zeroW w) RW_zero (key_of hk)
  rw [a2] at hv
  obtain rfl := RW_none hv
  rw [hr, a1]
theorem MapAt.kept_yes (h : MapAt w I RK b n l) (k : Int) (hk : -9223372036854775808 ≤ k ∧ k ≤ 9223372036854775807) (xs : List Int) (hg : getS l k = some (some xs)) :
    ∃ g m, (Instr.lookup 88 (.map (some b)) (.int .i64 k) true).run Tryd.prog w = .ok (.tuple #[.agg #[.slice (some ⟨g, 0, none⟩) n m, .bool false], .bool true]) w ∧ xs.length = n ∧ Octets xs ∧ I g ∧ Own w 0 5 .u8 (.slice (some ⟨g, 0, none⟩) n m) xs := by
  obtain ⟨es, h1, h2⟩ := h
  obtain ⟨a1, d, a2, _, a3⟩ := h2.get_yes k _ hg
  obtain ⟨g, m, e1, e2, e3, eI, e4⟩ := a3
  obtain ⟨v, ps, hr, hv⟩ := h1.look_ok keyI Tryd.underlying88 (zeroK w) RK_zero (key_of hk)
  rw [a2] at hv
  change d = codeS g n m at e1
  subst e1
  obtain rfl := RK_some hv
  exact ⟨g, m, by rw [hr, a1], e2, e3, eI, e4⟩
theorem MapAt.kept_torn (h : MapAt w I RK b n l) (k : Int) (hk : -9223372036854775808 ≤ k ∧ k ≤ 9223372036854775807) (hg : getS l k = some none) :
    (Instr.lookup 88 (.map (some b)) (.int .i64 k) true).run Tryd.prog w = .ok (.tuple #[.agg #[.slice none 0 0, .bool true], .bool true]) w := by
  obtain ⟨es, h1, h2⟩ := h
  obtain ⟨a1, d, a2, _, a3⟩ := h2.get_yes k _ hg
  change d = .lit (.bool true) at a3
  obtain ⟨v, ps, hr, hv⟩ := h1.look_ok keyI Tryd.underlying88 (zeroK w) RK_zero (key_of hk)
  rw [a2, a3] at hv
  obtain rfl := RK_lit hv
  rw [hr, a1]
theorem MapAt.kept_no (h : MapAt w I RK b n l) (k : Int) (hk : -9223372036854775808 ≤ k ∧ k ≤ 9223372036854775807) (hg : getS l k = none) :
    (Instr.lookup 88 (.map (some b)) (.int .i64 k) true).run Tryd.prog w = .ok (.tuple #[.agg #[.slice none 0 0, .bool false], .bool false]) w := by
  obtain ⟨es, h1, h2⟩ := h
  obtain ⟨a1, a2⟩ := h2.get_no k hg
  obtain ⟨v, ps, hr, hv⟩ := h1.look_ok keyI Tryd.underlying88 (zeroK w) RK_zero (key_of hk)
  rw [a2] at hv
  obtain rfl := RK_lit hv
  rw [hr, a1]

/-- A value that an entry may hold. -/
def GoodV (w : World) (I : Nat → Prop) (R : Value → Option (DataW Unit × List MemPlace)) (n : Nat) (v : Value) (o : Option (List Int)) : Prop := ∃ d, R v = some (d, []) ∧ ∀ k, Tie w I n (.int .i64 k, d) (k, o)
theorem GoodV.waits {w : World} {I : Nat → Prop} {n g m : Nat} {xs : List Int} (hI : I g) (hl : xs.length = n) (ho : Octets xs) (h : Own w 0 5 .u8 (.slice (some ⟨g, 0, none⟩) n m) xs) : GoodV w I RW n (.slice (some ⟨g, 0, none⟩) n m) (some xs) :=
  ⟨codeS g n m, rfl, fun _ => ⟨rfl, g, m, rfl, hl, ho, hI, h⟩⟩
theorem GoodV.kept {w : World} {I : Nat → Prop} {n g m : Nat} {xs : List Int} (hI : I g) (hl : xs.length = n) (ho : Octets xs) (h : Own w 0 5 .u8 (.slice (some ⟨g, 0, none⟩) n m) xs) : GoodV w I RK n (.agg #[.slice (some ⟨g, 0, none⟩) n m, .bool false]) (some xs) :=
  ⟨codeS g n m, rfl, fun _ => ⟨rfl, g, m, rfl, hl, ho, hI, h⟩⟩
theorem GoodV.torn {w : World} {I : Nat → Prop} {n : Nat} : GoodV w I RK n (.agg #[.slice none 0 0, .bool true]) none :=
  ⟨.lit (.bool true), rfl, fun _ => ⟨rfl, rfl⟩⟩

theorem MapAt.store {R : Value → Option (DataW Unit × List MemPlace)} {t e : TypeId} (ht : Tryd.prog.underlying t = some (.map 3 e)) (h : MapAt w I R b n l) (hu : Up l) (hm : l.length < 1000000000) (k : Int) (hk : -9223372036854775808 ≤ k ∧ k ≤ 9223372036854775807) (v : Value) (o : Option (List Int)) (hv : GoodV w I R n v o) :
    ∃ w', (Instr.mapUpdate t (.map (some b)) (.int .i64 k) v).run Tryd.prog w = .ok () w' ∧ MapAt w' I R b n (putS l k o) ∧ w.mapTurned w' b := by
  have h' := h
  obtain ⟨es, h1, h2⟩ := h
  obtain ⟨d, hd, htie⟩ := hv
  obtain ⟨w', hr, ho, ht'⟩ := h1.store keyI ht (len_ok hm) (key_of hk) hd
  have tn : TurnsIn (fun x => x = b) w w' := TurnsIn.ofGrown (row := some b) ht'.grown fun x hx => (Option.some.inj hx).symm
  refine ⟨w', hr, MapAt.of ho ?_, ht'⟩
  exact (h2.put hu k d o (htie k)).out tn (fun x hx _ cs f => row_not_map h' x hx cs f)
end
end Go.Proofs.YtpnodocjpedcmaaDoor.Sec

namespace Go.Proofs.YtpnodocjpedcmaaDoor.Sec
open Go.ChangeShapes Go.WideShapes Go.ChangeAt Go.RowKit Go.Proofs.YtpnodocjpedcmaaDoor.Kit Go.Maps

/-- A device. -/
structure Dv where
  size : Nat
  count : Nat
  kept : Sl
  waits : Sl
  off : Bool
  offs : Int
  fuse : Int
  wr : Int
structure Dv.Ok (s : Dv) : Prop where
  s1 : 128 ≤ s.size
  s2 : s.size ≤ 4096
  c1 : 1 ≤ s.count
  c2 : s.count ≤ 1048576
  ku : Up s.kept
  wu : Up s.waits
  kr : ∀ p ∈ s.kept, 0 ≤ p.1 ∧ p.1 < s.count
  wr_ : ∀ p ∈ s.waits, 0 ≤ p.1 ∧ p.1 < s.count
  wn : ∀ p ∈ s.waits, p.2 ≠ none
  f1 : -1 ≤ s.fuse
  f2 : s.fuse ≤ 9223372036854775807
  o1 : 0 ≤ s.offs
  w1 : 0 ≤ s.wr
def Dv.cells (s : Dv) (mk mw : Nat) : Array Value :=
  #[.int .i64 s.size, .int .i64 s.count, .map (some mk), .map (some mw), .bool s.off, .int .i64 s.offs, .int .i64 s.fuse, .int .u64 s.wr]
/-- A device lies in memory: itself in a, what is kept in mk, what waits in mw; its rows of bytes lie in blocks of I. -/
structure DvAt (w : World) (I : Nat → Prop) (a mk mw : Nat) (s : Dv) : Prop where
  blk : Block w a 91 (s.cells mk mw)
  k : MapAt w I RK mk s.size s.kept
  wt : MapAt w I RW mw s.size s.waits
  ne : mk ≠ mw
  ok : s.Ok
/-- A device's blocks. -/
def DSet (a mk mw b : Nat) : Prop := b = a ∨ b = mk ∨ b = mw

section
variable {w w' : World} {I J : Nat → Prop} {a mk mw : Nat} {s : Dv}
theorem DvAt.lt (h : DvAt w I a mk mw s) : a < w.heap.size ∧ mk < w.heap.size ∧ mw < w.heap.size := ⟨h.blk.lt, h.k.lt, h.wt.lt⟩
theorem DvAt.mono (h : DvAt w I a mk mw s) (hJ : ∀ g, g < w.heap.size → I g → J g) : DvAt w J a mk mw s := ⟨h.blk, h.k.mono hJ, h.wt.mono hJ, h.ne, h.ok⟩
theorem DvAt.no_row (h : DvAt w I a mk mw s) : ∀ b, DSet a mk mw b → ∀ cs f, w.heap[b]? ≠ some (.cells cs 5 f) := by
  rintro b (rfl | rfl | rfl) cs f
  · intro e
    have := h.blk
    unfold Block at this
    rw [this] at e
    injection e with e
    injection e with _ e _
    exact absurd e (by decide)
  · exact h.k.no_row _ _ _
  · exact h.wt.no_row _ _ _
theorem DvAt.ne_k (h : DvAt w I a mk mw s) : a ≠ mk := by
  rintro rfl
  exact h.k.no_row _ _ _ h.blk
theorem DvAt.ne_w (h : DvAt w I a mk mw s) : a ≠ mw := by
  rintro rfl
  exact h.wt.no_row _ _ _ h.blk
/-- It stays while other blocks turn. -/
theorem DvAt.out {S : Nat → Prop} (h : DvAt w I a mk mw s) (t : TurnsIn S w w') (h1 : ¬ S a) (h2 : ¬ S mk) (h3 : ¬ S mw) (hS : ∀ b, S b → I b → ∀ cs f, w.heap[b]? ≠ some (.cells cs 5 f)) : DvAt w' I a mk mw s :=
  ⟨h.blk.out t h1, h.k.out t h2 hS, h.wt.out t h3 hS, h.ne, h.ok⟩
theorem DvAt.below (h : DvAt w I a mk mw s) (hb : Below w.heap.size w w') : DvAt w' I a mk mw s :=
  h.out (S := fun _ => False) (.ofNew hb) id id id fun _ hf => hf.elim
theorem DvAt.alloc (h : DvAt w I a mk mw s) (o : Obj) : DvAt (w.alloc o) I a mk mw s := h.below ((Below.refl _ _).alloc (Nat.le_refl _) _)
/-- A field is stored. -/
theorem DvAt.field (h : DvAt w I a mk mw s) (i : Nat) (u : Value) (s' : Dv) (hc : (s.cells mk mw).setIfInBounds i u = s'.cells mk mw) (hk : s'.kept = s.kept) (hw : s'.waits = s.waits) (hs : s'.size = s.size) (ok : s'.Ok) :
    DvAt (w.setCell ⟨a, i, none⟩ u) I a mk mw s' ∧ TurnsIn (DSet a mk mw) w (w.setCell ⟨a, i, none⟩ u) := by
  have t : TurnsIn (fun b => b = a) w (w.setCell ⟨a, i, none⟩ u) := TurnsIn.setCell (S := fun b => b = a) (p := ⟨a, i, none⟩) (TurnsIn.refl _ w) (Or.inl rfl) u
  have hr : ∀ b, b = a → I b → ∀ cs f, w.heap[b]? ≠ some (.cells cs 5 f) := fun b hb _ => h.no_row b (Or.inl hb)
  refine ⟨⟨by rw [← hc]; exact h.blk.set_ i u, ?_, ?_, h.ne, ok⟩, t.mono fun b _ hb => Or.inl hb⟩
  · rw [hk, hs]; exact h.k.out t (fun e => h.ne_k e.symm) hr
  · rw [hw, hs]; exact h.wt.out t (fun e => h.ne_w e.symm) hr
/-- The cells, to be read. -/
theorem DvAt.reads (h : DvAt w I a mk mw s) :
    w.cell? ⟨a, 0, none⟩ = some (.int .i64 s.size) ∧ w.cell? ⟨a, 1, none⟩ = some (.int .i64 s.count) ∧ w.cell? ⟨a, 2, none⟩ = some (.map (some mk)) ∧ w.cell? ⟨a, 3, none⟩ = some (.map (some mw)) ∧ w.cell? ⟨a, 4, none⟩ = some (.bool s.off) ∧ w.cell? ⟨a, 5, none⟩ = some (.int .i64 s.offs) ∧ w.cell? ⟨a, 6, none⟩ = some (.int .i64 s.fuse) ∧ w.cell? ⟨a, 7, none⟩ = some (.int .u64 s.wr) :=
  ⟨h.blk.cell 0, h.blk.cell 1, h.blk.cell 2, h.blk.cell 3, h.blk.cell 4, h.blk.cell 5, h.blk.cell 6, h.blk.cell 7⟩
theorem DvAt.free (h : DvAt w I a mk mw s) (i : Nat) : w.frozen? ⟨a, i, none⟩ = false := h.blk.frozen i
end

/-! ### methods that read -/
theorem size_any (I : Nat → Prop) (a mk mw : Nat) (s : Dv) (w : World) (h : DvAt w I a mk mw s) : Calls Tryd.prog 57 #[.pointer (some ⟨a, 0, none⟩)] w fun e w' => e = .returned (.int .i64 s.size) ∧ w = w' := by
  obtain ⟨c0, c1, c2, c3, c4, c5, c6, c7⟩ := h.reads
  clear h
  go_enter Tryd.func57, Tryd.ntmps57
  go_wp2
  go_ret
  exact ⟨rfl, rfl⟩
theorem count_any (I : Nat → Prop) (a mk mw : Nat) (s : Dv) (w : World) (h : DvAt w I a mk mw s) : Calls Tryd.prog 58 #[.pointer (some ⟨a, 0, none⟩)] w fun e w' => e = .returned (.int .i64 s.count) ∧ w = w' := by
  obtain ⟨c0, c1, c2, c3, c4, c5, c6, c7⟩ := h.reads
  clear h
  go_enter Tryd.func58, Tryd.ntmps58
  go_wp2
  go_ret
  exact ⟨rfl, rfl⟩
theorem isOn_any (I : Nat → Prop) (a mk mw : Nat) (s : Dv) (w : World) (h : DvAt w I a mk mw s) : Calls Tryd.prog 41 #[.pointer (some ⟨a, 0, none⟩)] w fun e w' => e = .returned (.bool (!s.off)) ∧ w = w' := by
  obtain ⟨c0, c1, c2, c3, c4, c5, c6, c7⟩ := h.reads
  clear h
  go_enter Tryd.func41, Tryd.ntmps41
  go_wp2
  go_ret
  exact ⟨rfl, rfl⟩
theorem writes_any (I : Nat → Prop) (a mk mw : Nat) (s : Dv) (w : World) (h : DvAt w I a mk mw s) : Calls Tryd.prog 32 #[.pointer (some ⟨a, 0, none⟩)] w fun e w' => e = .returned (.int .u64 s.wr) ∧ w = w' := by
  obtain ⟨c0, c1, c2, c3, c4, c5, c6, c7⟩ := h.reads
  clear h
  go_enter Tryd.func32, Tryd.ntmps32
  go_wp2
  go_ret
  exact ⟨rfl, rfl⟩
theorem MapAt.len {w : World} {I : Nat → Prop} {R : Value → Option (DataW Unit × List MemPlace)} {b n : Nat} {l : Sl} {t e : TypeId} (ht : Tryd.prog.underlying t = some (.map 3 e)) (h : MapAt w I R b n l) (ty : TypeId) : (Builtin.len_ #[t] ty #[.map (some b)]).run Tryd.prog w = .ok (.int .i64 l.length) w := by
  obtain ⟨es, h1, h2⟩ := h
  rw [h1.len ht ty, ← h2.length]
  rfl
theorem waits_any (I : Nat → Prop) (a mk mw : Nat) (s : Dv) (w : World) (h : DvAt w I a mk mw s) : Calls Tryd.prog 31 #[.pointer (some ⟨a, 0, none⟩)] w fun e w' => e = .returned (.int .i64 s.waits.length) ∧ w = w' := by
  obtain ⟨c0, c1, c2, c3, c4, c5, c6, c7⟩ := h.reads
  have hl := fun ty => h.wt.len Tryd.underlying89 ty
  clear h
  go_enter Tryd.func31, Tryd.ntmps31
  go_wp2
  go_ret
  exact ⟨rfl, rfl⟩
end Go.Proofs.YtpnodocjpedcmaaDoor.Sec

namespace Go.Proofs.YtpnodocjpedcmaaDoor.Sec
open Go.ChangeShapes Go.WideShapes Go.ChangeAt Go.RowKit Go.Proofs.YtpnodocjpedcmaaDoor.Kit Go.Maps

/-- It goes off. -/
def Dv.down (s : Dv) : Dv := if s.off = true then s else { s with off := true, offs := s.offs + 1 }
/-- A call counted of the fuse. -/
def Dv.tick (s : Dv) : Dv := if s.fuse = -1 then s else if s.fuse = 0 then s.down else { s with fuse := s.fuse - 1 }
def Dv.blown (s : Dv) : Bool := decide (s.fuse = 0)
def Dv.fused (s : Dv) (n : Int) : Dv := { s with fuse := max n 0 }
theorem Dv.Ok.down {s : Dv} (h : s.Ok) : s.down.Ok := by
  unfold Dv.down
  split
  · exact h
  · exact ⟨h.s1, h.s2, h.c1, h.c2, h.ku, h.wu, h.kr, h.wr_, h.wn, h.f1, h.f2, by have := h.o1; show 0 ≤ s.offs + 1; omega, h.w1⟩
/-- What a step leaves of a device: it lies where it lay, and only its own blocks have turned. -/
def Leaves (I : Nat → Prop) (a mk mw : Nat) (w : World) (s' : Dv) (v : Value) (e : Ending) (w' : World) : Prop :=
  e = .returned v ∧ DvAt w' I a mk mw s' ∧ TurnsIn (DSet a mk mw) w w'

set_option maxHeartbeats 1600000 in
theorem off_any (I : Nat → Prop) (a mk mw : Nat) (s : Dv) (w : World) (h : DvAt w I a mk mw s) (hb : s.offs ≤ 1000000000) :
    Calls Tryd.prog 20 #[.pointer (some ⟨a, 0, none⟩)] w (Leaves I a mk mw w s.down (.tuple #[])) := by
  have GI := Lib.hid (isOn_any I a mk mw s w h)
  have ho := h.ok.o1
  have hh := h.ok
  unfold Dv.down
  cases hoff : s.off with
  | true =>
    rw [if_pos rfl]
    rw [hoff] at GI
    clear ho hh hb
    go_enter Tryd.func20, Tryd.ntmps20
    go_wp2_with (go_at_call 41; (with_reducible refine GI.out.mono ?_); rintro e w1 ⟨rfl, rfl⟩)
    exact bodyPost_end (results_none rfl _ _ _) rfl ⟨rfl, h, TurnsIn.refl _ _⟩
  | false =>
    rw [if_neg (by decide)]
    rw [hoff] at GI
    have H1 := h.field 4 (.bool true) { s with off := true } rfl rfl rfl rfl ⟨hh.s1, hh.s2, hh.c1, hh.c2, hh.ku, hh.wu, hh.kr, hh.wr_, hh.wn, hh.f1, hh.f2, hh.o1, hh.w1⟩
    obtain ⟨D1, T1⟩ := H1
    have H2 := D1.field 5 (.int .i64 (s.offs + 1)) { s with off := true, offs := s.offs + 1 } rfl rfl rfl rfl ⟨hh.s1, hh.s2, hh.c1, hh.c2, hh.ku, hh.wu, hh.kr, hh.wr_, hh.wn, hh.f1, hh.f2, by show 0 ≤ s.offs + 1; omega, hh.w1⟩
    obtain ⟨D2, T2⟩ := H2
    obtain ⟨c0, c1, c2, c3, c4, c5, c6, c7⟩ := h.reads
    obtain ⟨d0, d1, d2, d3, d4, d5, d6, d7⟩ := D1.reads
    have f4 := h.free 4
    have f5 := D1.free 5
    have HD := Lib.hid D2
    have HT := Lib.hid (T1.trans T2)
    simp only at d0 d1 d2 d3 d4 d5 d6 d7
    clear hh h D1 T1 D2 T2 hoff
    go_enter Tryd.func20, Tryd.ntmps20
    go_wp2_with (go_at_call 41; (with_reducible refine GI.out.mono ?_); rintro e w1 ⟨rfl, rfl⟩)
    exact bodyPost_end (results_none rfl _ _ _) rfl ⟨rfl, HD.out, HT.out⟩

set_option maxHeartbeats 1600000 in
theorem fuse_any (I : Nat → Prop) (a mk mw : Nat) (s : Dv) (n : Int) (w : World) (h : DvAt w I a mk mw s) (hn : -9223372036854775808 ≤ n ∧ n ≤ 9223372036854775807) :
    Calls Tryd.prog 23 #[.pointer (some ⟨a, 0, none⟩), .int .i64 n] w (Leaves I a mk mw w (s.fused n) (.tuple #[])) := by
  have hh := h.ok
  unfold Dv.fused
  have H1 := h.field 6 (.int .i64 (max n 0)) { s with fuse := max n 0 } rfl rfl rfl rfl ⟨hh.s1, hh.s2, hh.c1, hh.c2, hh.ku, hh.wu, hh.kr, hh.wr_, hh.wn, by show -1 ≤ max n 0; omega, by show max n 0 ≤ _; omega, hh.o1, hh.w1⟩
  obtain ⟨D1, T1⟩ := H1
  obtain ⟨c0, c1, c2, c3, c4, c5, c6, c7⟩ := h.reads
  have f6 := h.free 6
  have HD := Lib.hid D1
  have HT := Lib.hid T1
  clear hh h D1 T1
  rcases (by omega : 0 ≤ n ∨ n < 0) with hn0 | hn0
  · rw [show max n 0 = n by omega] at HD HT ⊢
    go_enter Tryd.func23, Tryd.ntmps23
    go_wp2
    exact bodyPost_end (results_none rfl _ _ _) rfl ⟨rfl, HD.out, HT.out⟩
  · rw [show max n 0 = 0 by omega] at HD HT ⊢
    have hn1 : ¬ 0 ≤ n := by omega
    go_enter Tryd.func23, Tryd.ntmps23
    go_wp2
    exact bodyPost_end (results_none rfl _ _ _) rfl ⟨rfl, HD.out, HT.out⟩

set_option maxHeartbeats 1600000 in
theorem blows_any (I : Nat → Prop) (a mk mw : Nat) (s : Dv) (w : World) (h : DvAt w I a mk mw s) (hb : s.offs ≤ 1000000000) :
    Calls Tryd.prog 43 #[.pointer (some ⟨a, 0, none⟩)] w (Leaves I a mk mw w s.tick (.bool s.blown)) := by
  have hh := h.ok
  obtain ⟨c0, c1, c2, c3, c4, c5, c6, c7⟩ := h.reads
  have f6 := h.free 6
  unfold Dv.tick Dv.blown
  have hf1 := hh.f1
  have hf2 := hh.f2
  by_cases h1 : s.fuse = -1
  · rw [if_pos h1, decide_eq_false (by omega)]
    have HD := Lib.hid h
    rw [h1] at c6
    clear h hh h1
    go_enter Tryd.func43, Tryd.ntmps43
    go_wp2
    go_ret
    exact ⟨rfl, HD.out, TurnsIn.refl _ _⟩
  · rw [if_neg h1]
    by_cases h0 : s.fuse = 0
    · rw [if_pos h0, decide_eq_true h0]
      have GO := Lib.hid (off_any I a mk mw s w h hb)
      rw [h0] at c6
      clear h hh h1 h0 hf1 hf2
      generalize s.down = s1 at *
      go_enter Tryd.func43, Tryd.ntmps43
      go_wp2_with (go_at_call 20; (with_reducible refine GO.out.mono ?_); rintro e w1 ⟨rfl, hd, ht⟩)
      go_ret
      exact ⟨rfl, hd, ht⟩
    · rw [if_neg h0, decide_eq_false h0]
      have d1 : decide (s.fuse = -1) = false := decide_eq_false h1
      have d0 : decide (s.fuse = 0) = false := decide_eq_false h0
      have b1 : (s.fuse == -1) = false := by simpa using h1
      have b0 : (s.fuse == 0) = false := by simpa using h0
      have H1 := h.field 6 (.int .i64 (s.fuse - 1)) { s with fuse := s.fuse - 1 } rfl rfl rfl rfl ⟨hh.s1, hh.s2, hh.c1, hh.c2, hh.ku, hh.wu, hh.kr, hh.wr_, hh.wn, by show -1 ≤ s.fuse - 1; omega, by show s.fuse - 1 ≤ _; omega, hh.o1, hh.w1⟩
      obtain ⟨D1, T1⟩ := H1
      have HD := Lib.hid D1
      have HT := Lib.hid T1
      have hf3 : 0 < s.fuse := by omega
      clear hh h D1 T1 h1 h0 hf1
      generalize s.fuse = n at *
      go_enter Tryd.func43, Tryd.ntmps43
      go_wp2
      go_ret
      exact ⟨rfl, HD.out, HT.out⟩
end Go.Proofs.YtpnodocjpedcmaaDoor.Sec

namespace Go.Proofs.YtpnodocjpedcmaaDoor.Sec
open Go.ChangeShapes Go.WideShapes Go.ChangeAt Go.RowKit Go.Proofs.YtpnodocjpedcmaaDoor.Kit Go.Maps

theorem elem8 : IntElem Tryd.prog 22 5 .u8 1 := ⟨Tryd.underlying22, by kernel_rfl, by decide⟩

set_option maxRecDepth 100000 in
/-- slices.Clone of bytes that are not nil: a new row. -/
theorem clone_any (b off : Nat) (xs : List Int) (c : Nat) (w : World) (hx : xs.length ≤ 1000000000) (hr : Holds w w.heap.size .u8 (some ⟨b, off, none⟩) xs) :
    Calls Tryd.prog 42 #[.slice (some ⟨b, off, none⟩) xs.length c] w fun e w' => ∃ v, e = .returned v ∧ Own w' w.heap.size 5 .u8 v xs ∧ Below w.heap.size w w' := by
  have own0 : Own (w.alloc (.cells #[] 5)) w.heap.size 5 .u8 (.slice (some ⟨w.heap.size, 0, none⟩) 0 0) [] := Own.empty w 5 .u8 (Nat.le_refl _)
  have B0 : Below w.heap.size w (w.alloc (.cells #[] 5)) := (Below.refl _ _).alloc (Nat.le_refl _) _
  have hr0 := hr.below B0
  have q := fun W => Lib.run_eql_slice_nil (P := Tryd.prog) W 22 5 (some ⟨b, off, none⟩) xs.length c 0 0 Tryd.underlying22
  clear hr
  go_enter Tryd.func42, Tryd.ntmps42
  go_wp2_with (at_builtin; refine wpList_append_ints (ys := xs) _ rfl _ _ 22 rfl elem8 own0 rfl rfl hr0 (by simp; omega) B0.size ?_; intro v7 w7 own7 g7 hb7 _)
  go_ret
  exact ⟨_, rfl, own7, B0.trans hb7⟩

def Dv.new (size count : Nat) : Dv := ⟨size, count, [], [], false, 0, -1, 0⟩
theorem Dv.new_ok {size count : Nat} (h1 : 128 ≤ size) (h2 : size ≤ 4096) (h3 : 1 ≤ count) (h4 : count ≤ 1048576) : (Dv.new size count).Ok :=
  ⟨h1, h2, h3, h4, up_nil, up_nil, fun _ h => (List.not_mem_nil h).elim, fun _ h => (List.not_mem_nil h).elim, fun _ h => (List.not_mem_nil h).elim, Int.le_refl _, by show (-1 : Int) ≤ _; omega, Int.le_refl _, Int.le_refl _⟩
/-- A device that is new. -/
def NewDev (I : Nat → Prop) (s : Dv) (w : World) (e : Ending) (w' : World) : Prop :=
  ∃ a mk mw, e = .returned (.tuple #[.pointer (some ⟨a, 0, none⟩), .int .i64 0]) ∧ DvAt w' I a mk mw s ∧ Below w.heap.size w w' ∧ w.heap.size ≤ a ∧ w.heap.size ≤ mk ∧ w.heap.size ≤ mw

set_option maxHeartbeats 1600000 in
theorem new_any (I : Nat → Prop) (size count : Nat) (w : World) (h1 : 128 ≤ size) (h2 : size ≤ 4096) (h3 : 1 ≤ count) (h4 : count ≤ 1048576) :
    Calls Tryd.prog 10 #[.int .i64 size, .int .i64 count] w (NewDev I (Dv.new size count) w) := by
  have hmm := fun W t => @run_makeMap Tryd.prog W t
  go_enter Tryd.func10, Tryd.ntmps10
  go_wp2
  go_ret2
  have K1 : MapAt (w.alloc (.map #[] 0)) I RK w.heap.size size [] := MapAt.made w I RK size
  have B1 : Below w.heap.size w (w.alloc (.map #[] 0)) := (Below.refl _ _).alloc (Nat.le_refl _) _
  have z1 : (w.alloc (.map #[] 0)).heap.size = w.heap.size + 1 := by simp
  have W2 : MapAt ((w.alloc (.map #[] 0)).alloc (.map #[] 0)) I RW (w.heap.size + 1) size [] := by
    have := MapAt.made (w.alloc (.map #[] 0)) I RW size
    rw [z1] at this
    exact this
  have T2 : TurnsIn (fun _ => False) (w.alloc (.map #[] 0)) ((w.alloc (.map #[] 0)).alloc (.map #[] 0)) := (TurnsIn.refl _ _).alloc _
  have K2 := K1.out T2 id (fun _ h => h.elim)
  have z2 : ((w.alloc (.map #[] 0)).alloc (.map #[] 0)).heap.size = w.heap.size + 1 + 1 := by simp
  have B2 := B1.alloc B1.size (.map #[] 0)
  have T3 : TurnsIn (fun _ => False) ((w.alloc (.map #[] 0)).alloc (.map #[] 0)) (((w.alloc (.map #[] 0)).alloc (.map #[] 0)).alloc (.cells ((Dv.new size count).cells w.heap.size (w.heap.size + 1)) 91)) := (TurnsIn.refl _ _).alloc _
  have D3 : Block (((w.alloc (.map #[] 0)).alloc (.map #[] 0)).alloc (.cells ((Dv.new size count).cells w.heap.size (w.heap.size + 1)) 91)) (w.heap.size + 1 + 1) 91 ((Dv.new size count).cells w.heap.size (w.heap.size + 1)) := by
    have := Block.new ((w.alloc (.map #[] 0)).alloc (.map #[] 0)) 91 ((Dv.new size count).cells w.heap.size (w.heap.size + 1))
    rw [z2] at this
    exact this
  exact ⟨_, _, _, rfl, ⟨D3, K2.out T3 id (fun _ h => h.elim), W2.out T3 id (fun _ h => h.elim), by omega, Dv.new_ok h1 h2 h3 h4⟩, B2.alloc B2.size _, by omega, by omega, by omega⟩
end Go.Proofs.YtpnodocjpedcmaaDoor.Sec

namespace Go.Proofs.YtpnodocjpedcmaaDoor.Sec
open Go.ChangeShapes Go.WideShapes Go.ChangeAt Go.RowKit Go.Proofs.YtpnodocjpedcmaaDoor.Kit Go.Maps

/-- What a read gives: bytes, and the error's number. -/
def Dv.read (s : Dv) (i : Int) : List Int × Int :=
  if s.off = true then ([], 8) else if i < 0 ∨ (s.count : Int) ≤ i then ([], 5) else
  match getS s.waits i with
  | some (some xs) => (xs, 0)
  | _ => match getS s.kept i with
    | none => (List.replicate s.size 0, 0)
    | some none => ([], 7)
    | some (some xs) => (xs, 0)
def GivesB (zs : List Int) (E : Int) (w : World) (e : Ending) (w' : World) : Prop :=
  ∃ v, e = .returned (.tuple #[v, .int .i64 E]) ∧ Own w' w.heap.size 5 .u8 v zs ∧ Below w.heap.size w w'
theorem mem_getS {l : Sl} {k : Int} {o : Option (List Int)} (h : getS l k = some o) : (k, o) ∈ l := by
  induction l with
  | nil => cases h
  | cons q r ih =>
    obtain ⟨j, u⟩ := q
    unfold getS at h
    split at h
    · rename_i hj
      injection h with h
      subst hj h
      simp
    · exact List.mem_cons_of_mem _ (ih h)

set_option maxRecDepth 100000 in
set_option maxHeartbeats 3200000 in
theorem read_any (I : Nat → Prop) (a mk mw : Nat) (s : Dv) (i : Int) (w : World) (h : DvAt w I a mk mw s) (hi : -9223372036854775808 ≤ i ∧ i ≤ 9223372036854775807) :
    Calls Tryd.prog 77 #[.pointer (some ⟨a, 0, none⟩), .int .i64 i] w (GivesB (s.read i).1 (s.read i).2 w) := by
  have GI := Lib.hid (isOn_any I a mk mw s w h)
  have B0 := Below.refl w.heap.size w
  have nil_ : ∀ E, GivesB [] E w (.returned (.tuple #[.slice none 0 0, .int .i64 E])) w := fun E => ⟨_, rfl, Own.nil w w.heap.size 5 .u8, B0⟩
  have HN := Lib.hid nil_
  clear nil_
  obtain ⟨c0, c1, c2, c3, c4, c5, c6, c7⟩ := h.reads
  have hs1 := h.ok.s1
  have hs2 := h.ok.s2
  have hc2 := h.ok.c2
  unfold Dv.read
  cases hoff : s.off with
  | true =>
    rw [if_pos rfl]
    rw [hoff] at GI
    clear h
    go_enter Tryd.func77, Tryd.ntmps77
    go_wp2_with (go_at_call 41; (with_reducible refine GI.out.mono ?_); rintro e w1 ⟨rfl, rfl⟩)
    go_ret2
    exact HN.out 8
  | false =>
    rw [if_neg (by decide)]
    rw [hoff] at GI
    by_cases hlo : i < 0
    · rw [if_pos (Or.inl hlo)]
      have d1 : decide (i < 0) = true := decide_eq_true hlo
      clear h
      go_enter Tryd.func77, Tryd.ntmps77
      go_wp2_with (go_at_call 41; (with_reducible refine GI.out.mono ?_); rintro e w1 ⟨rfl, rfl⟩)
      go_ret2
      exact HN.out 5
    · have d1 : decide (i < 0) = false := decide_eq_false hlo
      by_cases hhi : (s.count : Int) ≤ i
      · rw [if_pos (Or.inr hhi)]
        have d2 : decide ((s.count : Int) ≤ i) = true := decide_eq_true hhi
        clear h
        go_enter Tryd.func77, Tryd.ntmps77
        go_wp2_with (go_at_call 41; (with_reducible refine GI.out.mono ?_); rintro e w1 ⟨rfl, rfl⟩)
        go_ret2
        exact HN.out 5
      · have d2 : decide ((s.count : Int) ≤ i) = false := decide_eq_false hhi
        rw [if_neg (by omega)]
        cases hgw : getS s.waits i with
        | some o =>
          cases o with
          | none => exact absurd rfl (h.ok.wn _ (mem_getS hgw))
          | some xs =>
            obtain ⟨g, m, hr, hxl, _, _, own⟩ := h.wt.look_yes i hi xs hgw true
            obtain ⟨A, c, he, _, _, hh⟩ := own.opened
            injection he with he1 he2 he3
            subst he1 he3
            have GC := clone_any g 0 xs m w (by omega) hh
            rw [hxl] at GC
            replace GC := Lib.hid GC
            simp only [if_true] at hr
            clear h hgw own hh he2 hxl
            go_enter Tryd.func77, Tryd.ntmps77
            go_wp2_with (first
              | (go_at_call 41; (with_reducible refine GI.out.mono ?_); rintro e w1 ⟨rfl, rfl⟩)
              | (go_at_call 42; (with_reducible refine GC.out.mono ?_); rintro e w1 ⟨v, rfl, own, hb⟩))
            go_ret2
            exact ⟨v, rfl, own, hb⟩
        | none =>
          have hrw := h.wt.look_no i hi hgw
          cases hgk : getS s.kept i with
          | none =>
            have hrk := h.k.kept_no i hi hgk
            have e0 := (h.alloc (.cells #[.slice none 0 0, .bool false] 103)).reads.1
            have B1 : Below w.heap.size w (w.alloc (.cells #[.slice none 0 0, .bool false] 103)) := (Below.refl _ _).alloc (Nat.le_refl _) _
            clear h hgw hgk
            go_enter Tryd.func77, Tryd.ntmps77
            go_wp2_with (first
              | (go_at_call 41; (with_reducible refine GI.out.mono ?_); rintro e w1 ⟨rfl, rfl⟩)
              | (refine wpList_make_ints _ rfl _ _ _ rfl elem8 s.size s.size rfl rfl rfl rfl (Nat.le_refl _) (by omega) ?_; intro w5 own5 hb5 hl5))
            go_ret2
            have o6 := own5.mono B1.size
            rw [show (w.alloc (.cells #[.slice none 0 0, .bool false] 103)).heap.size = w.heap.size + 1 by simp] at o6
            exact ⟨_, rfl, o6, B1.trans (hb5.mono B1.size)⟩
          | some o =>
            cases o with
            | none =>
              have hrk := h.k.kept_torn i hi hgk
              clear h hgw hgk
              go_enter Tryd.func77, Tryd.ntmps77
              go_wp2_with (go_at_call 41; (with_reducible refine GI.out.mono ?_); rintro e w1 ⟨rfl, rfl⟩)
              go_ret2
              exact ⟨_, rfl, Own.nil _ w.heap.size 5 .u8, (Below.refl _ _).alloc (Nat.le_refl _) _⟩
            | some xs =>
              obtain ⟨g, m, hrk, hxl, _, _, own⟩ := h.k.kept_yes i hi xs hgk
              have B1 : Below w.heap.size w (w.alloc (.cells #[.slice (some ⟨g, 0, none⟩) s.size m, .bool false] 103)) := (Below.refl _ _).alloc (Nat.le_refl _) _
              obtain ⟨A, c, he, _, _, hh⟩ := own.opened
              injection he with he1 he2 he3
              subst he1 he3
              have GC := Lib.hid (fun W (hB : Below w.heap.size w W) => clone_any g 0 xs m W (by omega) ((hh.below hB).more hB.size))
              rw [hxl] at GC
              clear h hgw hgk own hh he2 hxl
              go_enter Tryd.func77, Tryd.ntmps77
              go_wp2_with (first
                | (go_at_call 41; (with_reducible refine GI.out.mono ?_); rintro e w1 ⟨rfl, rfl⟩)
                | (go_at_call 42; (with_reducible refine (GC.out _ B1).mono ?_); rintro e w1 ⟨v, rfl, own, hb⟩))
              go_ret2
              exact ⟨v, rfl, own.mono B1.size, B1.trans (hb.mono B1.size)⟩
end Go.Proofs.YtpnodocjpedcmaaDoor.Sec

namespace Go.Proofs.YtpnodocjpedcmaaDoor.Sec
open Go.ChangeShapes Go.WideShapes Go.ChangeAt Go.RowKit Go.Proofs.YtpnodocjpedcmaaDoor.Kit Go.Maps

/-- What a write leaves, and the error's number. -/
def Dv.writes (s : Dv) (i : Int) (xs : List Int) : Dv := { s with waits := putS s.waits i (some xs) }
def Dv.write (s : Dv) (i : Int) (xs : List Int) : Int × Dv :=
  if s.off = true then (8, s) else if i < 0 ∨ (s.count : Int) ≤ i then (5, s) else if xs.length ≠ s.size then (3, s) else
  if s.fuse = 0 then (8, (s.writes i xs).tick) else (0, { (s.writes i xs).tick with wr := s.wr + 1 })
theorem Dv.Ok.writes {s : Dv} (h : s.Ok) {i : Int} {xs : List Int} (h0 : 0 ≤ i) (h1 : i < s.count) : (s.writes i xs).Ok := by
  refine ⟨h.s1, h.s2, h.c1, h.c2, h.ku, h.wu.putS i (some xs), h.kr, fun p hp => ?_, fun p hp => ?_, h.f1, h.f2, h.o1, h.w1⟩
  · rcases mem_putS hp with rfl | hp
    · exact ⟨h0, h1⟩
    · exact h.wr_ p hp
  · rcases mem_putS hp with rfl | hp
    · exact fun e => by cases e
    · exact h.wn p hp
theorem Dv.Ok.tick {s : Dv} (h : s.Ok) : s.tick.Ok := by
  unfold Dv.tick
  split
  · exact h
  · split
    · exact h.down
    · exact ⟨h.s1, h.s2, h.c1, h.c2, h.ku, h.wu, h.kr, h.wr_, h.wn, by have := h.f1; show -1 ≤ s.fuse - 1; omega, by have := h.f2; show s.fuse - 1 ≤ _; omega, h.o1, h.w1⟩
theorem Dv.tick_wr (s : Dv) : s.tick.wr = s.wr := by
  unfold Dv.tick Dv.down
  split
  · rfl
  · split
    · split <;> rfl
    · rfl
theorem waits_few {s : Dv} (h : s.Ok) : s.waits.length < 1000000000 := by
  have := up_length s.waits 0 h.wu h.wr_
  have := h.c2
  omega
theorem kept_few {s : Dv} (h : s.Ok) : s.kept.length < 1000000000 := by
  have := up_length s.kept 0 h.ku h.kr
  have := h.c2
  omega
/-- A sector is put to wait. -/
theorem DvAt.wait {w w' : World} {I : Nat → Prop} {a mk mw : Nat} {s : Dv} (h : DvAt w I a mk mw s) {i : Int} {xs : List Int} (h0 : 0 ≤ i) (h1 : i < s.count) (hm : MapAt w' I RW mw s.size (putS s.waits i (some xs))) (t : w.mapTurned w' mw) :
    DvAt w' I a mk mw (s.writes i xs) ∧ TurnsIn (DSet a mk mw) w w' := by
  have tn : TurnsIn (fun x => x = mw) w w' := TurnsIn.ofGrown (row := some mw) t.grown fun x hx => (Option.some.inj hx).symm
  have hr : ∀ b, b = mw → I b → ∀ cs f, w.heap[b]? ≠ some (.cells cs 5 f) := fun b hb _ => h.no_row b (Or.inr (Or.inr hb))
  exact ⟨⟨h.blk.out tn h.ne_w, h.k.out tn h.ne hr, hm, h.ne, h.ok.writes h0 h1⟩, tn.mono fun b _ hb => Or.inr (Or.inr hb)⟩

set_option maxRecDepth 100000 in
set_option maxHeartbeats 3200000 in
theorem write_any (I : Nat → Prop) (a mk mw : Nat) (s : Dv) (i : Int) (A : Option Addr) (xs : List Int) (c : Nat) (w : World) (h : DvAt w I a mk mw s) (hI : ∀ g, w.heap.size ≤ g → I g) (hi : -9223372036854775808 ≤ i ∧ i ≤ 9223372036854775807)
    (hx : xs.length ≤ 1000000000) (ho : Octets xs) (hr : Holds w w.heap.size .u8 A xs) (hof : s.offs ≤ 1000000000) (hwr : s.wr ≤ 1000000000) :
    Calls Tryd.prog 12 #[.pointer (some ⟨a, 0, none⟩), .int .i64 i, .slice A xs.length c] w (Leaves I a mk mw w (s.write i xs).2 (.int .i64 (s.write i xs).1)) := by
  have GI := Lib.hid (isOn_any I a mk mw s w h)
  have HSame : ∀ E, Leaves I a mk mw w s (.int .i64 E) (.returned (.int .i64 E)) w := fun E => ⟨rfl, h, TurnsIn.refl _ _⟩
  have HN := Lib.hid HSame
  clear HSame
  obtain ⟨c0, c1, c2, c3, c4, c5, c6, c7⟩ := h.reads
  have hs1 := h.ok.s1
  have hs2 := h.ok.s2
  have hc2 := h.ok.c2
  unfold Dv.write
  cases hoff : s.off with
  | true =>
    rw [if_pos rfl]
    rw [hoff] at GI
    clear h
    go_enter Tryd.func12, Tryd.ntmps12
    go_wp2_with (go_at_call 41; (with_reducible refine GI.out.mono ?_); rintro e w1 ⟨rfl, rfl⟩)
    go_ret
    exact HN.out 8
  | false =>
    rw [if_neg (by decide)]
    rw [hoff] at GI
    by_cases hlo : i < 0
    · rw [if_pos (Or.inl hlo)]
      have d1 : decide (i < 0) = true := decide_eq_true hlo
      clear h
      go_enter Tryd.func12, Tryd.ntmps12
      go_wp2_with (go_at_call 41; (with_reducible refine GI.out.mono ?_); rintro e w1 ⟨rfl, rfl⟩)
      go_ret
      exact HN.out 5
    · have d1 : decide (i < 0) = false := decide_eq_false hlo
      by_cases hhi : (s.count : Int) ≤ i
      · rw [if_pos (Or.inr hhi)]
        have d2 : decide ((s.count : Int) ≤ i) = true := decide_eq_true hhi
        clear h
        go_enter Tryd.func12, Tryd.ntmps12
        go_wp2_with (go_at_call 41; (with_reducible refine GI.out.mono ?_); rintro e w1 ⟨rfl, rfl⟩)
        go_ret
        exact HN.out 5
      · have d2 : decide ((s.count : Int) ≤ i) = false := decide_eq_false hhi
        rw [if_neg (by omega)]
        by_cases hlen : xs.length = s.size
        · rw [if_neg (fun e => e hlen)]
          obtain ⟨b, off, rfl, hb, hc⟩ := hr (by omega)
          have GC := Lib.hid (fun W (hB : Below w.heap.size w W) => clone_any b off xs c W hx ((hr.below hB).more hB.size))
          have hStore : ∀ W v, Below w.heap.size w W → Own W w.heap.size 5 .u8 v xs → ∃ W', (Instr.mapUpdate 89 (.map (some mw)) (.int .i64 i) v).run Tryd.prog W = .ok () W' ∧ DvAt W' I a mk mw (s.writes i xs) ∧ TurnsIn (DSet a mk mw) w W' := by
            intro W v hB own
            obtain ⟨g, cap, rfl, hg, hg2, _⟩ := own.form (by omega)
            have D := h.below hB
            rw [hlen] at own ⊢
            obtain ⟨W', h1, h2, h3⟩ := D.wt.store Tryd.underlying89 h.ok.wu (waits_few h.ok) i hi _ (some xs) (GoodV.waits (hI g hg) hlen ho (own.mono (Nat.zero_le _)))
            obtain ⟨D2, T2⟩ := D.wait (by omega) (by omega) h2 h3
            exact ⟨W', h1, D2, (TurnsIn.ofNew hB).trans T2⟩
          obtain ⟨F, hF⟩ : ∃ F : World → Value → World, ∀ W v, Below w.heap.size w W → Own W w.heap.size 5 .u8 v xs → (Instr.mapUpdate 89 (.map (some mw)) (.int .i64 i) v).run Tryd.prog W = .ok () (F W v) ∧ DvAt (F W v) I a mk mw (s.writes i xs) ∧ TurnsIn (DSet a mk mw) w (F W v) :=
            ⟨fun W v => @Classical.epsilon World ⟨w⟩ (fun W' => (Instr.mapUpdate 89 (.map (some mw)) (.int .i64 i) v).run Tryd.prog W = .ok () W' ∧ DvAt W' I a mk mw (s.writes i xs) ∧ TurnsIn (DSet a mk mw) w W'), fun W v hB own => Classical.epsilon_spec (hStore W v hB own)⟩
          have HStore := Lib.hid hF
          clear hF
          have B0 := Below.refl w.heap.size w
          obtain ⟨R, hR⟩ : ∃ R : Int × Dv, (if s.fuse = 0 then (8, (s.writes i xs).tick) else (0, { (s.writes i xs).tick with wr := s.wr + 1 })) = R := ⟨_, rfl⟩
          rw [hR]
          have HR := Lib.hid hR
          clear hR
          have b1 : ((xs.length : Int) != (s.size : Int)) = false := by rw [hlen]; simp
          have b2 : ((xs.length : Int) == (s.size : Int)) = true := by rw [hlen]; simp
          have HLen := Lib.hid hlen
          have HD := Lib.hid h
          have hal := h.lt.1
          clear hStore h hlen hr
          go_enter Tryd.func12, Tryd.ntmps12
          go_wp2_with (go_at_call 41; (with_reducible refine GI.out.mono ?_); rintro e w1 ⟨rfl, rfl⟩)
          go_cut [0] (fun p wx => p = .pointer (some ⟨a, 0, none⟩) ∧ DvAt wx I a mk mw (s.writes i xs) ∧ TurnsIn (DSet a mk mw) w wx)
          case first =>
            go_region_with (go_at_call 42; refine (GC.out _ (by first | exact B0 | exact below_draws B0 _)).mono ?_; rintro e w1 ⟨v, rfl, own, hb⟩; have q3 := (HD.out.below (w' := w1) ⟨hb.os, hb.tape, hb.output, hb.size, hb.block⟩).reads.2.2.2.1; have e1 := (HStore.out w1 v ⟨hb.os, hb.tape, hb.output, hb.size, hb.block⟩ own).1)
            all_goals
              have hS := HStore.out w1 v ⟨hb.os, hb.tape, hb.output, hb.size, hb.block⟩ own
              go_wp2_with fail
              go_meet
              exact ⟨rfl, hS.2.1, hS.2.2⟩
          case rest =>
            clear c0 c1 c2 c3 c4 c5 c6 c7 b1 b2
            obtain ⟨rfl, D, T⟩ := hcut
            have GB := Lib.hid (blows_any I a mk mw (s.writes i xs) _ D hof)
            have hbl : (s.writes i xs).blown = decide (s.fuse = 0) := rfl
            rw [hbl] at GB
            have hw1 := D.ok.w1
            have hw0 : 0 ≤ s.wr := hw1
            by_cases hf : s.fuse = 0
            · rw [decide_eq_true hf] at GB
              rw [if_pos hf] at HR
              go_wp2_with (go_at_call 43; (with_reducible refine GB.out.mono ?_); rintro e w4 ⟨rfl, hd, ht⟩)
              go_ret
              rw [← HR.out]
              exact ⟨rfl, hd, T.trans ht⟩
            · rw [decide_eq_false hf] at GB
              rw [if_neg hf] at HR
              have hok := D.ok.tick
              have HTW := Lib.hid ((s.writes i xs).tick_wr)
              have HF : ∀ w4, DvAt w4 I a mk mw (s.writes i xs).tick → w4.cell? ⟨a, 7, none⟩ = some (.int .u64 s.wr) ∧ w4.frozen? ⟨a, 7, none⟩ = false ∧ DvAt (w4.setCell ⟨a, 7, none⟩ (.int .u64 (s.wr + 1))) I a mk mw { (s.writes i xs).tick with wr := s.wr + 1 } ∧ TurnsIn (DSet a mk mw) w4 (w4.setCell ⟨a, 7, none⟩ (.int .u64 (s.wr + 1))) := by
                intro w4 hd
                have r7 := hd.reads.2.2.2.2.2.2.2
                rw [(s.writes i xs).tick_wr] at r7
                obtain ⟨q1, q2⟩ := hd.field 7 (.int .u64 (s.wr + 1)) { (s.writes i xs).tick with wr := s.wr + 1 } rfl rfl rfl rfl ⟨hok.s1, hok.s2, hok.c1, hok.c2, hok.ku, hok.wu, hok.kr, hok.wr_, hok.wn, hok.f1, hok.f2, hok.o1, by show 0 ≤ s.wr + 1; omega⟩
                exact ⟨r7, hd.free 7, q1, q2⟩
              have HF' := Lib.hid HF
              clear HF hok D hf hw1 hbl
              generalize (s.writes i xs).tick = s2 at *
              go_wp2_with (go_at_call 43; (with_reducible refine GB.out.mono ?_); rintro e w4 ⟨rfl, hd, ht⟩; obtain ⟨r7, f7, q1, q2⟩ := HF'.out w4 hd)
              go_ret
              rw [← HR.out]
              exact ⟨rfl, q1, T.trans (ht.trans q2)⟩
        · rw [if_pos hlen]
          have b1 : ((xs.length : Int) != (s.size : Int)) = true := by simpa using (fun e : (xs.length : Int) = s.size => hlen (by omega))
          have b2 : ((xs.length : Int) == (s.size : Int)) = false := by simpa using (fun e : (xs.length : Int) = s.size => hlen (by omega))
          clear h hlen
          go_enter Tryd.func12, Tryd.ntmps12
          go_wp2_with (go_at_call 41; (with_reducible refine GI.out.mono ?_); rintro e w1 ⟨rfl, rfl⟩)
          go_ret
          exact HN.out 3
end Go.Proofs.YtpnodocjpedcmaaDoor.Sec

namespace Go.Proofs.YtpnodocjpedcmaaDoor.Sec
open Go.Proofs.YtpnodocjpedcmaaDoor.Kit

theorem getS_low {l : Sl} {k : Int} (h : ∀ p ∈ l, k < p.1) : getS l k = none := by
  induction l with
  | nil => rfl
  | cons q r ih =>
    obtain ⟨j, u⟩ := q
    have := h (j, u) (by simp)
    simp only at this
    unfold getS
    rw [if_neg (by omega)]
    exact ih fun p hp => h p (List.mem_cons_of_mem _ hp)
theorem getS_putS {l : Sl} (hu : Up l) (k j : Int) (o : Option (List Int)) : getS (putS l k o) j = if j = k then some o else getS l j := by
  induction l with
  | nil =>
    unfold putS getS
    by_cases c : k = j
    · rw [if_pos c, if_pos c.symm]
    · rw [if_neg c, if_neg (fun e => c e.symm)]
      rfl
  | cons q r ih =>
    obtain ⟨i, u⟩ := q
    obtain ⟨h1, h2⟩ := List.pairwise_cons.1 hu
    unfold putS
    by_cases c1 : k < i
    · rw [if_pos c1]
      conv => lhs; unfold getS
      by_cases c : k = j
      · rw [if_pos c, if_pos c.symm]
      · rw [if_neg c, if_neg (fun e => c e.symm)]
    · rw [if_neg c1]
      by_cases c2 : k = i
      · rw [if_pos c2]
        subst c2
        conv => lhs; unfold getS
        by_cases c : k = j
        · rw [if_pos c, if_pos c.symm]
        · rw [if_neg c, if_neg (fun e => c e.symm)]
          conv => rhs; unfold getS
          rw [if_neg c]
      · rw [if_neg c2]
        conv => lhs; unfold getS
        rw [ih h2]
        conv => rhs; unfold getS
        by_cases c : i = j
        · rw [if_pos c, if_pos c, if_neg (by omega)]
        · rw [if_neg c, if_neg c]
theorem getS_some {l : Sl} (hu : Up l) {p : Int × Option (List Int)} (h : p ∈ l) : getS l p.1 = some p.2 := by
  induction l with
  | nil => cases h
  | cons q r ih =>
    obtain ⟨j, u⟩ := q
    obtain ⟨h1, h2⟩ := List.pairwise_cons.1 hu
    rcases List.mem_cons.1 h with rfl | h
    · unfold getS; rw [if_pos rfl]
    · have : j < p.1 := h1 p h
      unfold getS
      rw [if_neg (by omega)]
      exact ih h2 h
theorem sl_ext : ∀ {l m : Sl}, Up l → Up m → (∀ k, getS l k = getS m k) → l = m
  | [], [], _, _, _ => rfl
  | [], q :: r, _, hm, h => by
    have := h q.1
    rw [getS_some hm (by simp)] at this
    cases this
  | q :: r, [], hl, _, h => by
    have := h q.1
    rw [getS_some hl (by simp)] at this
    cases this
  | (i, u) :: r, (j, v) :: t, hl, hm, h => by
    obtain ⟨a1, a2⟩ := List.pairwise_cons.1 hl
    obtain ⟨b1, b2⟩ := List.pairwise_cons.1 hm
    have e : i = j := by
      rcases Int.lt_trichotomy i j with c | c | c
      · have := h i
        rw [getS_low (l := (j, v) :: t) (fun p hp => by
          rcases List.mem_cons.1 hp with rfl | hp
          · exact c
          · have : j < p.1 := b1 p hp
            omega)] at this
        unfold getS at this
        rw [if_pos rfl] at this
        cases this
      · exact c
      · have := h j
        rw [getS_low (l := (i, u) :: r) (fun p hp => by
          rcases List.mem_cons.1 hp with rfl | hp
          · exact c
          · have : i < p.1 := a1 p hp
            omega)] at this
        unfold getS at this
        rw [if_pos rfl] at this
        cases this
    subst e
    have ev : u = v := by
      have := h i
      unfold getS at this
      rw [if_pos rfl, if_pos rfl] at this
      injection this
    subst ev
    congr 1
    refine sl_ext a2 b2 fun k => ?_
    have := h k
    unfold getS at this
    by_cases c : i = k
    · subst c
      rw [getS_low (fun p hp => a1 p hp), getS_low (fun p hp => b1 p hp)]
    · rw [if_neg c, if_neg c] at this
      exact this

/-- What waits is kept. -/
def merge (k w : Sl) : Sl := w.foldl (fun k p => putS k p.1 p.2) k
theorem merge_up {k w : Sl} (h : Up k) : Up (merge k w) := by
  induction w generalizing k with
  | nil => exact h
  | cons q r ih => exact ih (h.putS q.1 q.2)
theorem mem_merge {k w : Sl} {p : Int × Option (List Int)} (h : p ∈ merge k w) : p ∈ k ∨ p ∈ w := by
  induction w generalizing k with
  | nil => exact Or.inl h
  | cons q r ih =>
    rcases ih h with h | h
    · rcases mem_putS h with rfl | h
      · exact Or.inr (by simp)
      · exact Or.inl h
    · exact Or.inr (List.mem_cons_of_mem _ h)
theorem getS_merge {k w : Sl} (h : Up k) (hw : Up w) (j : Int) : getS (merge k w) j = match getS w j with | some o => some o | none => getS k j := by
  induction w generalizing k with
  | nil => rfl
  | cons q r ih =>
    obtain ⟨i, u⟩ := q
    obtain ⟨a1, a2⟩ := List.pairwise_cons.1 hw
    show getS (merge (putS k i u) r) j = _
    have e : getS ((i, u) :: r) j = if i = j then some u else getS r j := rfl
    rw [ih (h.putS i u) a2, getS_putS h, e]
    by_cases c : i = j
    · subst c
      rw [getS_low (fun p hp => a1 p hp), if_pos rfl, if_pos rfl]
    · rw [if_neg c, if_neg (fun e => c e.symm)]
end Go.Proofs.YtpnodocjpedcmaaDoor.Sec

namespace Go.Proofs.YtpnodocjpedcmaaDoor.Sec
open Go.ChangeShapes Go.WideShapes Go.ChangeAt Go.RowKit Go.Proofs.YtpnodocjpedcmaaDoor.Kit Go.Maps Go.ChangeMaps Go.MapKept

/-- What waits is kept, and waits no more. -/
def Dv.flush (s : Dv) : Dv := { s with kept := merge s.kept s.waits, waits := [] }
def Dv.sync (s : Dv) : Int × Dv := if s.off = true then (8, s) else if s.fuse = 0 then (8, s.tick) else (0, s.tick.flush)
theorem Dv.Ok.flush {s : Dv} (h : s.Ok) : s.flush.Ok :=
  ⟨h.s1, h.s2, h.c1, h.c2, merge_up h.ku, up_nil, fun p hp => by
    rcases mem_merge hp with hp | hp
    · exact h.kr p hp
    · exact h.wr_ p hp, fun _ h => (List.not_mem_nil h).elim, fun _ h => (List.not_mem_nil h).elim, h.f1, h.f2, h.o1, h.w1⟩

/-- clear(m). -/
theorem MapAt.clear {w : World} {I : Nat → Prop} {R : Value → Option (DataW Unit × List MemPlace)} {b n : Nat} {l : Sl} {t e : TypeId} (ht : Tryd.prog.underlying t = some (.map 3 e)) (h : MapAt w I R b n l) :
    ∃ w', (∀ ty, (Builtin.clear_ #[t] ty #[.map (some b)]).run Tryd.prog w = .ok (.tuple #[]) w') ∧ MapAt w' I R b n [] ∧ w.mapTurned w' b := by
  obtain ⟨es, ⟨e1, c1, h1, F, _⟩, h2⟩ := h
  refine ⟨setBlock w b (.map #[] c1), fun ty => ?_, ?_, ⟨e1, c1, #[], c1, h1, rfl⟩⟩
  · simp [Builtin.clear_, run_underlying ht, MapKept.run_getObj_map h1, MapKept.run_setObj_map _ h1, Result.andThen, setBlock]
  · refine ⟨[], ⟨#[], c1, heap_setBlock_same h1 _, ⟨by simp, MapKept.stamped_empty c1, by simp⟩, Nat.le_refl _, rfl⟩, .nil⟩

/-- A device, its map of what waits under way in a loop. -/
theorem has_get {w : World} {I : Nat → Prop} {n : Nat} {es : List (Lit × DataW Unit)} {l : Sl} (h : Ties w I n es l) (k : Int) (hk : Maps.has (.map es) (.int .i64 k) = true) : ∃ o, getS l k = some o := by
  cases hg : getS l k with
  | some o => exact ⟨o, rfl⟩
  | none => rw [(h.get_no k hg).1] at hk; cases hk

/-- The loop of Sync: kc is kept by now; left tells what is still to come. -/
structure Going (w0 w : World) (I : Nat → Prop) (a mk mw r N : Nat) (s : Dv) (es : List (Lit × DataW Unit)) (left : Lit → Bool) (cnt : Nat) (kc : Sl) : Prop where
  blk : Block w a 91 (s.cells mk mw)
  k : MapAt w I RK mk s.size kc
  ku : Up kc
  kr : ∀ p ∈ kc, 0 ≤ p.1 ∧ p.1 < s.count
  rg : w.ranges Tryd.prog 3 RW mw r N (.map es) left cnt
  ties : Ties w I s.size es s.waits
  sub : ∀ kl, left kl = true → Maps.has (.map es) kl = true
  is : ∀ j, getS kc j = match getS s.waits j with | some o => if left (.int .i64 j) = true then getS s.kept j else some o | none => getS s.kept j
  tn : TurnsIn (DSet a mk mw) w0 w
  nr : w0.heap.size ≤ r
  na : a < w0.heap.size
  nk : mk < w0.heap.size
  nw : mw < w0.heap.size

theorem iter_no_row {w : World} {b r n : Nat} {D : DataW Unit} {left : Lit → Bool} {cnt : Nat} (h : w.ranges Tryd.prog 3 RW b r n D left cnt) (cs : Array Value) (t : TypeId) (f : Nat × Nat) : w.heap[r]? ≠ some (.cells cs t f) := by
  obtain ⟨es, clock, since, seen, c0, _, _, _, _, hr, _⟩ := h
  rw [hr]
  intro e
  injection e with e
  cases e

/-- One entry is kept. -/
theorem Going.step {w0 w1 : World} {I : Nat → Prop} {a mk mw r N : Nat} {s : Dv} {es : List (Lit × DataW Unit)} {left : Lit → Bool} {cnt cnt1 : Nat} {kc : Sl} {w : World} (hok : s.Ok) (ne : mk ≠ mw) (h : Going w0 w I a mk mw r N s es left cnt kc) (x : Int) (v : Value) (y : DataW Unit × List MemPlace)
    (hx : (Lit.int .i64 x).wf = true) (hl : left (.int .i64 x) = true) (hv : RW v = some y) (hat : ∀ zd, (DataW.map es).atKey (.int .i64 x) zd = y.1) (hrg : w1.ranges Tryd.prog 3 RW mw r N (.map es) (fun z => left z && !z.sameKey (.int .i64 x)) cnt1) (hg : w.grownBy w1 (some r)) :
    w1.cell? ⟨a, 2, none⟩ = some (.map (some mk)) ∧ (∃ g m, v = .slice (some ⟨g, 0, none⟩) s.size m) ∧ ∃ w2, (Instr.mapUpdate 88 (.map (some mk)) (.int .i64 x) (.agg #[v, .bool false])).run Tryd.prog w1 = .ok () w2 ∧
      Going w0 w2 I a mk mw r N s es (fun z => left z && !z.sameKey (.int .i64 x)) cnt1 (putS kc x (match getS s.waits x with | some o => o | none => none)) := by
  obtain ⟨o, ho⟩ := has_get h.ties x (h.sub _ hl)
  obtain ⟨q1, q2⟩ := hok.wr_ _ (mem_getS ho)
  cases o with
  | none => exact absurd rfl (hok.wn _ (mem_getS ho))
  | some xs =>
    simp only [ho]
    obtain ⟨_, d, hd, htie⟩ := h.ties.get_yes x _ ho
    have hy : y.1 = d := by rw [← hat (.lit (.bool true)), hd]
    have hnr := fun cs f => iter_no_row h.rg cs 5 f
    have t1 : TurnsIn (fun b => b = r) w w1 := TurnsIn.ofGrown (row := some r) hg fun b hb => (Option.some.inj hb).symm
    have hS : ∀ b, b = r → I b → ∀ cs f, w.heap[b]? ≠ some (.cells cs 5 f) := by rintro b rfl _ cs f; exact hnr cs f
    have hna := h.na
    have hnk := h.nk
    have hnw := h.nw
    have hnrr := h.nr
    have blk1 := h.blk.out t1 (by omega)
    have k1 := h.k.out t1 (by omega) hS
    have ties1 := h.ties.out t1 hS
    obtain ⟨_, g, c, e1, e2, e3, eI, e4⟩ := htie.out t1 hS
    change d = codeS g s.size c at e1
    have hv' : RW v = some (codeS g s.size c, y.2) := by rw [hv, ← e1, ← hy]
    obtain rfl := RW_some hv'
    have hc2 := hok.c2
    have hfew : kc.length < 1000000000 := by
      have := up_length kc 0 h.ku h.kr
      omega
    have hxb : -9223372036854775808 ≤ x ∧ x ≤ 9223372036854775807 := by simp only at q1 q2; omega
    obtain ⟨w2, hrun, hm2, ht2⟩ := k1.store Tryd.underlying88 h.ku hfew x hxb _ (some xs) (GoodV.kept eI e2 e3 e4)
    have t2 : TurnsIn (fun b => b = mk) w1 w2 := TurnsIn.ofGrown (row := some mk) ht2.grown fun b hb => (Option.some.inj hb).symm
    have hS2 : ∀ b, b = mk → I b → ∀ cs f, w1.heap[b]? ≠ some (.cells cs 5 f) := fun b hb _ cs f => row_not_map k1 b hb cs f
    have hak : a ≠ mk := by
      rintro rfl
      exact h.k.no_row _ _ _ h.blk
    refine ⟨blk1.cell 2, ⟨g, c, rfl⟩, w2, hrun, ⟨blk1.out t2 hak, hm2, h.ku.putS x (some xs), fun p hp => ?_, ?_, ties1.out t2 hS2, fun kl hkl => ?_, fun j => ?_, ?_, h.nr, h.na, h.nk, h.nw⟩⟩
    · rcases mem_putS hp with rfl | hp
      · exact ⟨q1, q2⟩
      · exact h.kr p hp
    · refine hrg.kept ht2.grown (fun e => ne (Option.some.inj e).symm) (fun e => ?_)
      have := Option.some.inj e
      omega
    · simp only [Bool.and_eq_true] at hkl
      exact h.sub kl hkl.1
    · rw [getS_putS h.ku]
      by_cases c : j = x
      · subst c
        rw [if_pos rfl, ho]
        simp only [same_int, decide_true, Bool.not_true, Bool.and_false]
        rfl
      · rw [if_neg c, h.is j]
        simp only [same_int, decide_eq_false c, Bool.not_false, Bool.and_true]
    · refine (h.tn.then_ t1 fun b hb e => ?_).trans (t2.mono fun b _ e => Or.inr (Or.inl e))
      omega

/-- The loop is done. -/
theorem Going.done {w0 w : World} {I : Nat → Prop} {a mk mw r N : Nat} {s : Dv} {es : List (Lit × DataW Unit)} {left : Lit → Bool} {cnt : Nat} {kc : Sl} (hok : s.Ok) (ne : mk ≠ mw) (h : Going w0 w I a mk mw r N s es left cnt kc) (hl : ∀ kl, left kl = false) :
    w.cell? ⟨a, 3, none⟩ = some (.map (some mw)) ∧ ∃ w', (∀ ty, (Builtin.clear_ #[89] ty #[.map (some mw)]).run Tryd.prog w = .ok (.tuple #[]) w') ∧ DvAt w' I a mk mw s.flush ∧ TurnsIn (DSet a mk mw) w0 w' := by
  have hm : MapAt w I RW mw s.size s.waits := MapAt.of h.rg.owns h.ties
  obtain ⟨w', hrun, hm', ht⟩ := hm.clear Tryd.underlying89
  have t : TurnsIn (fun b => b = mw) w w' := TurnsIn.ofGrown (row := some mw) ht.grown fun b hb => (Option.some.inj hb).symm
  have hS : ∀ b, b = mw → I b → ∀ cs f, w.heap[b]? ≠ some (.cells cs 5 f) := fun b hb _ cs f => row_not_map hm b hb cs f
  have haw : a ≠ mw := by
    rintro rfl
    exact hm.no_row _ _ _ h.blk
  have hk : kc = merge s.kept s.waits := by
    refine sl_ext h.ku (merge_up hok.ku) fun j => ?_
    rw [h.is j, getS_merge hok.ku hok.wu]
    cases getS s.waits j with
    | none => rfl
    | some o => simp only [hl]; rfl
  refine ⟨h.blk.cell 3, w', hrun, ⟨h.blk.out t haw, ?_, hm', ne, hok.flush⟩, h.tn.trans (t.mono fun b _ e => Or.inr (Or.inr e))⟩
  show MapAt w' I RK mk s.size (merge s.kept s.waits)
  rw [← hk]
  exact h.k.out t ne hS

theorem Going.start {w1 w2 : World} {I : Nat → Prop} {a mk mw N : Nat} {s : Dv} {es : List (Lit × DataW Unit)} (hd : DvAt w1 I a mk mw s) (hties : Ties w1 I s.size es s.waits)
    (hrg : w2.ranges Tryd.prog 3 RW mw w1.heap.size N (.map es) (Maps.has (.map es)) (Maps.size (.map es))) (hg : w1.grownBy w2 none) :
    Going w1 w2 I a mk mw w1.heap.size N s es (Maps.has (.map es)) (Maps.size (.map es)) s.kept := by
  have t : TurnsIn (fun _ => False) w1 w2 := TurnsIn.ofGrown (row := none) hg fun b hb => by cases hb
  refine ⟨hd.blk.out t id, hd.k.out t id (fun _ h => h.elim), hd.ok.ku, hd.ok.kr, hrg, hties.out t (fun _ h => h.elim), fun _ h => h, fun j => ?_, t.mono fun _ _ h => h.elim, Nat.le_refl _, hd.lt.1, hd.lt.2.1, hd.lt.2.2⟩
  cases hj : getS s.waits j with
  | none => rfl
  | some o => simp only [(hties.get_yes j o hj).1, if_true]

theorem invK : ∀ key kl, keyOf Tryd.prog 3 key = some kl → ∃ x : Int, key = Value.int .i64 x := fun key kl h => by
  obtain ⟨x, rfl, _⟩ := Maps.keyOf_int_inv Tryd.underlying3 h
  exact ⟨x, rfl⟩
theorem invV : ∀ v y, RW v = some y → ∃ c : Value, v = id c := fun v _ _ => ⟨v, rfl⟩

set_option maxRecDepth 100000 in
set_option maxHeartbeats 3200000 in
theorem sync_any (I : Nat → Prop) (a mk mw : Nat) (s : Dv) (w : World) (h : DvAt w I a mk mw s) (hof : s.offs ≤ 1000000000) :
    Calls Tryd.prog 53 #[.pointer (some ⟨a, 0, none⟩)] w (Leaves I a mk mw w s.sync.2 (.int .i64 s.sync.1)) := by
  have GI := Lib.hid (isOn_any I a mk mw s w h)
  have GB := Lib.hid (blows_any I a mk mw s w h hof)
  unfold Dv.sync
  cases hoff : s.off with
  | true =>
    rw [if_pos rfl]
    rw [hoff] at GI
    go_enter Tryd.func53, Tryd.ntmps53
    go_wp2_with (go_at_call 41; (with_reducible refine GI.out.mono ?_); rintro e w1 ⟨rfl, rfl⟩)
    go_ret
    exact ⟨rfl, h, TurnsIn.refl _ _⟩
  | false =>
    rw [if_neg (by decide)]
    rw [hoff] at GI
    unfold Dv.blown at GB
    by_cases hf : s.fuse = 0
    · rw [if_pos hf]
      rw [decide_eq_true hf] at GB
      clear hf
      go_enter Tryd.func53, Tryd.ntmps53
      go_wp2_with (first
        | (go_at_call 41; (with_reducible refine GI.out.mono ?_); rintro e w1 ⟨rfl, rfl⟩)
        | (go_at_call 43; (with_reducible refine GB.out.mono ?_); rintro e w1 ⟨rfl, hd, ht⟩))
      go_ret
      exact ⟨rfl, hd, ht⟩
    · rw [if_neg hf]
      rw [decide_eq_false hf] at GB
      clear hf h hoff
      generalize s.tick = s2 at *
      go_enter Tryd.func53, Tryd.ntmps53
      go_wp2_with (first
        | (go_at_call 41; (with_reducible refine GI.out.mono ?_); rintro e w1 ⟨rfl, rfl⟩)
        | (go_at_call 43; (with_reducible refine GB.out.mono ?_); rintro e w1 ⟨rfl, hd, ht⟩; have q3 := hd.reads.2.2.2.1; have hwt := hd.wt; obtain ⟨es, hown, hties⟩ := hwt)
        | (at_range; refine wpList_range_own _ rfl _ 89 rfl 3 22 keyI Tryd.underlying89 RW mw s2.waits.length (.map es) rfl hown ?_; intro w2 hrg hg hs))
      have hst := Going.start hd hties hrg hg
      have hok := Lib.hid hd.ok
      have hne := hd.ne
      have hIs := Lib.hid ht
      clear hg hs hd ht hown hties q3 hrg GI GB
      generalize hr : w1.heap.size = r at *
      clear hr
      go_frame
      go_loopw [3] (fun _ wr => ∃ left cnt kc, Going w1 wr I a mk mw r s2.waits.length s2 es left cnt kc) (fun _ wr => wr.rangeLeft mw r)
      case atStart => exact ⟨_, _, _, hst⟩
      case round =>
        clear hst
        obtain ⟨left, cnt, kc, hgo⟩ := hrel
        have hrg := hgo.rg
        go_wp2_with (at_next; refine wpList_next_ranges _ rfl _ rfl 3 keyI RW (Value.int .i64) id invK invV mw r s2.waits.length (.map es) left cnt rfl hrg ?_ ?_)
        · intro _ hl0
          obtain ⟨q3, w5, hclr, hD, hT⟩ := hgo.done hok.out hne hl0
          have HD := Lib.hid hD
          have HT := Lib.hid (hIs.out.trans hT)
          clear hgo hrg hD hT hl0
          go_wp2
          go_ret
          exact ⟨rfl, HD.out, HT.out⟩
        · intro x c kl y0 y1 w6 cnt1 hkey hlk hv hat hrg1 hlt hg1 hs1 hen
          obtain ⟨x', ex, rfl, hwx⟩ := Maps.keyOf_int_inv Tryd.underlying3 hkey
          cases ex
          obtain ⟨q2, ⟨g, m, rfl⟩, w7, hup, hgo7⟩ := hgo.step hok.out hne x c (y0, y1) hwx hlk hv hat hrg1 hg1
          have HG := Lib.hid hgo7
          have HM : Hid (w7.rangeLeft mw r < wr.rangeLeft mw r) := Lib.hid (by rw [hgo7.rg.left_eq, hgo.rg.left_eq]; exact hlt)
          clear hgo hrg hgo7 hkey hlk hv hat hrg1 hlt hg1 hs1 hwx
          go_wp2
          go_roundw
          case rel => exact ⟨_, _, _, HG.out⟩
          case measure => exact HM.out
end Go.Proofs.YtpnodocjpedcmaaDoor.Sec

namespace Go.Proofs.YtpnodocjpedcmaaDoor.Kit
open Go.ChangeShapes Go.WideShapes Go.ChangeAt Go.RowKit

theorem conv_bytes {P : Program} {t e ts : TypeId} (ht : P.underlying t = some (.slice e)) (he : P.underlying e = some (.int .u8)) (hs : P.underlying ts = some .string)
    (w : World) (A : Option Addr) (xs : List Int) (c B : Nat) (hr : Holds w B .u8 A xs) :
    (convert t ts (.slice A xs.length c)).run P w = .ok (.string (strOfNums xs)) w := by
  rcases Nat.eq_zero_or_pos xs.length with h0 | h0
  · obtain rfl : xs = [] := List.eq_nil_of_length_eq_zero h0
    cases A with
    | none => exact run_convert_bytes_nil w _ _ ht he _ _ _ hs
    | some ad =>
      have hl : (loadCells ad 0).run P w = .ok (([] : List Int).map (Value.int .u8)).toArray w := by simpa using run_loadCells_list (P := P) w ad [] (by simp)
      rw [run_convert_bytes_string w _ _ e _ _ c ht he hs]
      rw [show ([] : List Int).length = 0 from rfl, run_bytesToString w ad 0 c [] hl]
      rfl
  · obtain ⟨b, off, rfl, _, hc⟩ := hr h0
    exact run_convert_bytes_arg w _ _ ht he b off xs.length c xs rfl hc _ hs

/-- No block is both rows'. -/
def Apart (u v : Value) : Prop := ∀ b, u.ownBlock = some b → v.ownBlock ≠ some b
theorem Apart.symm {u v : Value} (h : Apart u v) : Apart v u := fun b hb hu => h b hu hb
theorem Apart.newer {w : World} {u v v' : Value} (h : Apart u v) (hu : ∀ b, u.ownBlock = some b → b < w.heap.size) (n : Newer w v v') : Apart u v' := by
  intro b hb
  rcases n with n | n
  · rw [n]; exact h b hb
  · intro he
    have h1 := n b he
    have h2 := hu b hb
    omega
theorem Own.top {w : World} {B : Nat} {e : TypeId} {k : IntKind} {v : Value} {xs : List Int} (h : Own w B e k v xs) : ∀ b, v.ownBlock = some b → b < w.heap.size := fun b hb => (h.lt b hb).2
/-- A new row is apart from all that was there. -/
theorem Apart.new {w w' : World} {B : Nat} {e : TypeId} {k : IntKind} {u v : Value} {xs : List Int} (h : Own w' B e k v xs) (hB : w.heap.size ≤ B) (hu : ∀ b, u.ownBlock = some b → b < w.heap.size) : Apart u v := by
  intro b hb he
  have h1 := h.lt b he
  have h2 := hu b hb
  omega

/-- n elements from the p-th on. -/
theorem Holds.sub {w : World} {B : Nat} {k : IntKind} {b off : Nat} {xs : List Int} (h : Holds w B k (some ⟨b, off, none⟩) xs) (p n : Nat) (hn : p + n ≤ xs.length) : Holds w B k (some ⟨b, off + p, none⟩) ((xs.drop p).take n) := by
  intro hx
  have hl : ((xs.drop p).take n).length = n := by simp; omega
  rw [hl] at hx
  obtain ⟨b2, o2, hA, hb, hc⟩ := h (by omega)
  injection hA with hA
  injection hA with e1 e2
  subst e1 e2
  refine ⟨b, off + p, rfl, hb, fun j hj => ?_⟩
  rw [hl] at hj
  rw [Nat.add_assoc, hc (p + j) (by omega)]
  simp [List.getD, List.getElem?_take, hj]
end Go.Proofs.YtpnodocjpedcmaaDoor.Kit

namespace Go.Proofs.YtpnodocjpedcmaaDoor.Prt
open Go.ChangeShapes Go.WideShapes Go.ChangeAt Go.RowKit Go.Proofs.YtpnodocjpedcmaaDoor.Kit

theorem isin_any (x a b : Int) (w : World) : Calls Tryd.prog 96 #[.int .i64 x, .int .i64 a, .int .i64 b] w fun e w' => e = .returned (.bool (decide (a ≤ x ∧ x ≤ b))) ∧ w = w' := by
  by_cases h1 : a ≤ x
  · by_cases h2 : x ≤ b
    · rw [decide_eq_true (show a ≤ x ∧ x ≤ b from ⟨h1, h2⟩)]
      have q : decide (x ≤ b) = true := by simpa using h2
      go_enter Tryd.func96, Tryd.ntmps96
      go_wp2
      go_ret
      exact ⟨rfl, rfl⟩
    · rw [decide_eq_false (show ¬ (a ≤ x ∧ x ≤ b) from fun h => h2 h.2)]
      have q : decide (x ≤ b) = false := by simpa using h2
      go_enter Tryd.func96, Tryd.ntmps96
      go_wp2
      go_ret
      exact ⟨rfl, rfl⟩
  · rw [decide_eq_false (show ¬ (a ≤ x ∧ x ≤ b) from fun h => h1 h.1)]
    go_enter Tryd.func96, Tryd.ntmps96
    go_wp2
    go_ret
    exact ⟨rfl, rfl⟩

theorem grown_alloc {w w' : World} {row : Option Nat} (h : w.grownBy w' row) (o : Obj) : w.grownBy (w'.alloc o) row :=
  ⟨h.os, h.tape, h.output, Nat.le_trans h.size (by simp), fun k hk hne => (Below.heap_alloc w' o k (Nat.lt_of_lt_of_le hk h.size)).trans (h.block k hk hne)⟩
theorem grown_set {w w' : World} {g : Nat} (h : w.grownBy w' (some g)) (i : Nat) (u : Value) : w.grownBy (w'.setCell ⟨g, i, none⟩ u) (some g) :=
  ⟨h.os, h.tape, h.output, by simpa using h.size, fun k hk hne => (Below.heap_setCell w' _ u k (fun e => hne (by rw [e]))).trans (h.block k hk hne)⟩

theorem next_any (g : Nat) (v0 v1 v2 v3 v4 v5 v6 v7 v8 v9 : Value) (a n : Int) (w : World) (hb : Block w g 45 #[v0, v1, v2, v3, v4, v5, v6, v7, v8, v9, .int .i64 a])
    (ha : 0 ≤ a ∧ a ≤ 100000000) (hn : 0 ≤ n ∧ n ≤ 100000000) :
    Calls Tryd.prog 102 #[.int .i64 n, .pointer (some ⟨g, 0, none⟩)] w fun e w' => e = .returned (.agg #[.int .i64 a, .int .i64 n]) ∧ Block w' g 45 #[v0, v1, v2, v3, v4, v5, v6, v7, v8, v9, .int .i64 (a + n)] ∧ w.grownBy w' (some g) := by
  have c10 : w.cell? ⟨g, 10, none⟩ = some (.int .i64 a) := hb.cell 10
  have f10 := hb.frozen 10
  have hlt := hb.lt
  go_enter Tryd.func102, Tryd.ntmps102
  go_wp2
  refine bodyPost_ret (v := .agg #[.int .i64 a, .int .i64 n]) (by simp [results, Tryd.results102, go_sem]) rfl ⟨rfl, ?_, ?_⟩
  · have := ((hb.set_ 10 (.int .i64 (a + n))).alloc (.cells #[.int .i64 a, .int .i64 n] 42)).alloc (.cells #[.int .i64 a, .int .i64 n] 42)
    simpa using this
  · exact grown_alloc (grown_alloc (grown_set (World.grownBy.refl w _) 10 _) _) _

/-- The map of a layout: q sectors a block, s blocks a slot. -/
def mapV (q s : Int) : Value :=
  .agg #[.int .i64 0, .int .i64 1, .int .i64 1, .int .i64 1, .int .i64 2, .int .i64 q, .int .i64 (2 + q), .int .i64 (s * q), .int .i64 (2 + q + s * q), .int .i64 (s * q), .int .i64 (2 + q + s * q + s * q)]

def Gives (v : Value) (w : World) (e : Ending) (w' : World) : Prop := e = .returned v ∧ Below w.heap.size w w'

set_option maxHeartbeats 3200000 in
theorem lay_any (S B s q : Int) (w : World) (hS : 128 ≤ S ∧ S ≤ 4096) (hB : 128 ≤ B ∧ B ≤ 4096) (hs : 1 ≤ s ∧ s ≤ 4096) (hq : B / S = q) :
    Calls Tryd.prog 84 #[.agg #[.int .i64 S, .int .i64 B, .int .i64 s]] w (Gives (mapV q s) w) := by
  have hqb : 0 ≤ q ∧ q ≤ 32 := by
    have h0 : 0 ≤ q := by rw [← hq]; exact Int.ediv_nonneg (by omega) (by omega)
    have h1 : q * S ≤ B := by rw [← hq]; exact Int.ediv_mul_le B (by omega)
    have h2 : q * 128 ≤ q * S := Int.mul_le_mul_of_nonneg_left hS.1 h0
    omega
  have hsq : 0 ≤ s * q ∧ s * q ≤ 131072 := by
    have h1 : s * q ≤ s * 32 := Int.mul_le_mul_of_nonneg_left hqb.2 (by omega)
    exact ⟨Int.mul_nonneg (by omega) hqb.1, by omega⟩
  have hqi : B / S = q := hq
  have hwq : IntKind.i64.wrap (s * q) = s * q := IntWalk.i64_in _ (by omega)
  have bc := ((Block.new w 61 #[.int .i64 S, .int .i64 B, .int .i64 s]).alloc (.cells #[.int .i64 0, .int .i64 0, .int .i64 0, .int .i64 0, .int .i64 0, .int .i64 0, .int .i64 0, .int .i64 0, .int .i64 0, .int .i64 0, .int .i64 0] 45)).alloc (.cells #[.int .i64 0, .int .i64 0, .int .i64 0, .int .i64 0, .int .i64 0, .int .i64 0, .int .i64 0, .int .i64 0, .int .i64 0, .int .i64 0, .int .i64 0] 45)
  have br : Block (((w.alloc (.cells #[.int .i64 S, .int .i64 B, .int .i64 s] 61)).alloc (.cells #[.int .i64 0, .int .i64 0, .int .i64 0, .int .i64 0, .int .i64 0, .int .i64 0, .int .i64 0, .int .i64 0, .int .i64 0, .int .i64 0, .int .i64 0] 45)).alloc (.cells #[.int .i64 0, .int .i64 0, .int .i64 0, .int .i64 0, .int .i64 0, .int .i64 0, .int .i64 0, .int .i64 0, .int .i64 0, .int .i64 0, .int .i64 0] 45)) (w.heap.size + 1) 45 #[.int .i64 0, .int .i64 0, .int .i64 0, .int .i64 0, .int .i64 0, .int .i64 0, .int .i64 0, .int .i64 0, .int .i64 0, .int .i64 0, .int .i64 0] := by
    have := (Block.new (w.alloc (.cells #[.int .i64 S, .int .i64 B, .int .i64 s] 61)) 45 #[.int .i64 0, .int .i64 0, .int .i64 0, .int .i64 0, .int .i64 0, .int .i64 0, .int .i64 0, .int .i64 0, .int .i64 0, .int .i64 0, .int .i64 0]).alloc (.cells #[.int .i64 0, .int .i64 0, .int .i64 0, .int .i64 0, .int .i64 0, .int .i64 0, .int .i64 0, .int .i64 0, .int .i64 0, .int .i64 0, .int .i64 0] 45)
    simpa using this
  have bm : Block (((w.alloc (.cells #[.int .i64 S, .int .i64 B, .int .i64 s] 61)).alloc (.cells #[.int .i64 0, .int .i64 0, .int .i64 0, .int .i64 0, .int .i64 0, .int .i64 0, .int .i64 0, .int .i64 0, .int .i64 0, .int .i64 0, .int .i64 0] 45)).alloc (.cells #[.int .i64 0, .int .i64 0, .int .i64 0, .int .i64 0, .int .i64 0, .int .i64 0, .int .i64 0, .int .i64 0, .int .i64 0, .int .i64 0, .int .i64 0] 45)) (w.heap.size + 1 + 1) 45 #[.int .i64 0, .int .i64 0, .int .i64 0, .int .i64 0, .int .i64 0, .int .i64 0, .int .i64 0, .int .i64 0, .int .i64 0, .int .i64 0, .int .i64 0] := by
    have := Block.new ((w.alloc (.cells #[.int .i64 S, .int .i64 B, .int .i64 s] 61)).alloc (.cells #[.int .i64 0, .int .i64 0, .int .i64 0, .int .i64 0, .int .i64 0, .int .i64 0, .int .i64 0, .int .i64 0, .int .i64 0, .int .i64 0, .int .i64 0] 45)) 45 #[.int .i64 0, .int .i64 0, .int .i64 0, .int .i64 0, .int .i64 0, .int .i64 0, .int .i64 0, .int .i64 0, .int .i64 0, .int .i64 0, .int .i64 0]
    simpa using this
  have hb0 : Below w.heap.size w (((w.alloc (.cells #[.int .i64 S, .int .i64 B, .int .i64 s] 61)).alloc (.cells #[.int .i64 0, .int .i64 0, .int .i64 0, .int .i64 0, .int .i64 0, .int .i64 0, .int .i64 0, .int .i64 0, .int .i64 0, .int .i64 0, .int .i64 0] 45)).alloc (.cells #[.int .i64 0, .int .i64 0, .int .i64 0, .int .i64 0, .int .i64 0, .int .i64 0, .int .i64 0, .int .i64 0, .int .i64 0, .int .i64 0, .int .i64 0] 45)) := (((Below.refl _ _).alloc (Nat.le_refl _) _).alloc (by simp) _).alloc (by simp; omega) _
  have HQ := Lib.hid hq
  clear hq
  go_enter Tryd.func84, Tryd.ntmps84
  go_wp2_with fail
  generalize (((w.alloc (.cells #[.int .i64 S, .int .i64 B, .int .i64 s] 61)).alloc (.cells #[.int .i64 0, .int .i64 0, .int .i64 0, .int .i64 0, .int .i64 0, .int .i64 0, .int .i64 0, .int .i64 0, .int .i64 0, .int .i64 0, .int .i64 0] 45)).alloc (.cells #[.int .i64 0, .int .i64 0, .int .i64 0, .int .i64 0, .int .i64 0, .int .i64 0, .int .i64 0, .int .i64 0, .int .i64 0, .int .i64 0, .int .i64 0] 45)) = w0 at *
  refine (next_any _ _ _ _ _ _ _ _ _ _ _ 0 1 w0 bm (by omega) (by omega)).mono ?_
  rintro e w1 ⟨rfl, b1, g1⟩
  have bc1 := bc.grown g1 (by intro h; injection h with h; omega)
  have br1 := br.grown g1 (by intro h; injection h with h; omega)
  have hb1 := hb0.grown g1 hb0.size (fun k hk => by injection hk with hk; omega)
  clear bm bc br hb0 g1
  go_wp2_with fail
  refine (next_any _ _ _ _ _ _ _ _ _ _ _ (0 + 1) 1 w1 b1 (by omega) (by omega)).mono ?_
  rintro e w2 ⟨rfl, b2, g2⟩
  have bc2 := bc1.grown g2 (by intro h; injection h with h; omega)
  have br2 := br1.grown g2 (by intro h; injection h with h; omega)
  have hb2 := hb1.grown g2 hb1.size (fun k hk => by injection hk with hk; omega)
  clear b1 bc1 br1 hb1 g2
  have k0 : w2.cell? ⟨w.heap.size + 1 + 1, 0, none⟩ = some (.int .i64 0) := b2.cell 0
  have k1 : w2.cell? ⟨w.heap.size + 1 + 1, 1, none⟩ = some (.int .i64 0) := b2.cell 1
  have k2 : w2.cell? ⟨w.heap.size + 1 + 1, 2, none⟩ = some (.int .i64 0) := b2.cell 2
  have k3 : w2.cell? ⟨w.heap.size + 1 + 1, 3, none⟩ = some (.int .i64 0) := b2.cell 3
  have ff := fun i => b2.frozen i
  have q0 : w2.cell? ⟨w.heap.size, 0, none⟩ = some (.int .i64 S) := bc2.cell 0
  have q1 : w2.cell? ⟨w.heap.size, 1, none⟩ = some (.int .i64 B) := bc2.cell 1
  have q2 : w2.cell? ⟨w.heap.size, 2, none⟩ = some (.int .i64 s) := bc2.cell 2
  go_wp2_with fail
  have b3 := (((b2.set_ 0 (.int .i64 0)).set_ 1 (.int .i64 1)).set_ 2 (.int .i64 1)).set_ 3 (.int .i64 1)
  have bc3 := (((bc2.far (p := ⟨w.heap.size + 1 + 1, 0, none⟩) (by simp; omega) (.int .i64 0)).far (p := ⟨w.heap.size + 1 + 1, 1, none⟩) (by simp; omega) (.int .i64 1)).far (p := ⟨w.heap.size + 1 + 1, 2, none⟩) (by simp; omega) (.int .i64 1)).far (p := ⟨w.heap.size + 1 + 1, 3, none⟩) (by simp; omega) (.int .i64 1)
  have br3 := (((br2.far (p := ⟨w.heap.size + 1 + 1, 0, none⟩) (by simp) (.int .i64 0)).far (p := ⟨w.heap.size + 1 + 1, 1, none⟩) (by simp) (.int .i64 1)).far (p := ⟨w.heap.size + 1 + 1, 2, none⟩) (by simp) (.int .i64 1)).far (p := ⟨w.heap.size + 1 + 1, 3, none⟩) (by simp) (.int .i64 1)
  have hb3 := (((hb2.setCell (p := ⟨w.heap.size + 1 + 1, 0, none⟩) (by simp; omega) (.int .i64 0)).setCell (p := ⟨w.heap.size + 1 + 1, 1, none⟩) (by simp; omega) (.int .i64 1)).setCell (p := ⟨w.heap.size + 1 + 1, 2, none⟩) (by simp; omega) (.int .i64 1)).setCell (p := ⟨w.heap.size + 1 + 1, 3, none⟩) (by simp; omega) (.int .i64 1)
  generalize (((w2.setCell ⟨w.heap.size + 1 + 1, 0, none⟩ (.int .i64 0)).setCell ⟨w.heap.size + 1 + 1, 1, none⟩ (.int .i64 1)).setCell ⟨w.heap.size + 1 + 1, 2, none⟩ (.int .i64 1)).setCell ⟨w.heap.size + 1 + 1, 3, none⟩ (.int .i64 1) = w3 at *
  clear b2 bc2 br2 hb2 k0 k1 k2 k3 ff q0 q1 q2
  refine (next_any _ _ _ _ _ _ _ _ _ _ _ (0 + 1 + 1) q w3 b3 (by omega) (by omega)).mono ?_
  rintro e w4 ⟨rfl, b4, g4⟩
  have bc4 := bc3.grown g4 (by intro h; injection h with h; omega)
  have br4 := br3.grown g4 (by intro h; injection h with h; omega)
  have hb4 := hb3.grown g4 hb3.size (fun k hk => by injection hk with hk; omega)
  clear b3 bc3 br3 hb3 g4
  have k4 : w4.cell? ⟨w.heap.size + 1 + 1, 4, none⟩ = some (.int .i64 0) := b4.cell 4
  have k5 : w4.cell? ⟨w.heap.size + 1 + 1, 5, none⟩ = some (.int .i64 0) := b4.cell 5
  have ff := fun i => b4.frozen i
  go_wp2_with fail
  have b5 := (b4.set_ 4 (.int .i64 2)).set_ 5 (.int .i64 q)
  have bc5 := (bc4.far (p := ⟨w.heap.size + 1 + 1, 4, none⟩) (by simp; omega) (.int .i64 2)).far (p := ⟨w.heap.size + 1 + 1, 5, none⟩) (by simp; omega) (.int .i64 q)
  have br5 := (br4.far (p := ⟨w.heap.size + 1 + 1, 4, none⟩) (by simp) (.int .i64 2)).far (p := ⟨w.heap.size + 1 + 1, 5, none⟩) (by simp) (.int .i64 q)
  have hb5 := (hb4.setCell (p := ⟨w.heap.size + 1 + 1, 4, none⟩) (by simp; omega) (.int .i64 2)).setCell (p := ⟨w.heap.size + 1 + 1, 5, none⟩) (by simp; omega) (.int .i64 q)
  generalize (w4.setCell ⟨w.heap.size + 1 + 1, 4, none⟩ (.int .i64 2)).setCell ⟨w.heap.size + 1 + 1, 5, none⟩ (.int .i64 q) = w5 at *
  clear b4 bc4 br4 hb4 k4 k5 ff
  have q2 : w5.cell? ⟨w.heap.size, 2, none⟩ = some (.int .i64 s) := bc5.cell 2
  have b5' := b5.drewN 1
  have bc5' := bc5.drewN 1
  have br5' := br5.drewN 1
  have hb5' := below_draws hb5 1
  go_region_held3 (fun W' => W'.cell? ⟨w.heap.size, 2, none⟩ = some (.int .i64 s))
    (first | exact q2 | exact bc6.cell 2 | exact bc7.cell 2 | (rw [World.cell?_setCell_far _ _ _ _ (by simp; omega), World.cell?_setCell_far _ _ _ _ (by simp; omega), World.cell?_setCell_far _ _ _ _ (by simp; omega), World.cell?_setCell_far _ _ _ _ (by simp; omega)]; exact q7))
    (first
      | (go_at_call 102; have _t := b6; refine (next_any _ _ _ _ _ _ _ _ _ _ _ (0 + 1 + 1 + q + s * q) (s * q) w6 b6 (by omega) (by omega)).mono ?_; clear _t; rintro e w7 ⟨rfl, b7, g7⟩; have bc7 := bc6.grown g7 (by intro h; injection h with h; omega); have q7 : w7.cell? ⟨w.heap.size, 2, none⟩ = some (.int .i64 s) := bc7.cell 2; have k6 : w7.cell? ⟨w.heap.size + 1 + 1, 6, none⟩ = some (.int .i64 0) := b7.cell 6; have k7 : w7.cell? ⟨w.heap.size + 1 + 1, 7, none⟩ = some (.int .i64 0) := b7.cell 7; have k8 : w7.cell? ⟨w.heap.size + 1 + 1, 8, none⟩ = some (.int .i64 0) := b7.cell 8; have k9 : w7.cell? ⟨w.heap.size + 1 + 1, 9, none⟩ = some (.int .i64 0) := b7.cell 9; have ff7 := fun i => b7.frozen i)
      | (go_at_call 102; refine (next_any _ _ _ _ _ _ _ _ _ _ _ (0 + 1 + 1 + q) (s * q) w5.drew b5' (by omega) (by omega)).mono ?_; rintro e w6 ⟨rfl, b6, g6⟩; have bc6 := bc5'.grown g6 (by intro h; injection h with h; omega)))
  have br7 := (br5'.grown g6 (by intro h; injection h with h; omega)).grown g7 (by intro h; injection h with h; omega)
  have hb6 := hb5'.grown g6 hb5'.size (fun k hk => by injection hk with hk; omega)
  have hb7 := hb6.grown g7 hb6.size (fun k hk => by injection hk with hk; omega)
  have b8 := (((b7.set_ 6 (.int .i64 (2 + q))).set_ 7 (.int .i64 (s * q))).set_ 8 (.int .i64 (2 + q + s * q))).set_ 9 (.int .i64 (s * q))
  have br8 := (((br7.far (p := ⟨w.heap.size + 1 + 1, 6, none⟩) (by simp) (.int .i64 (2 + q))).far (p := ⟨w.heap.size + 1 + 1, 7, none⟩) (by simp) (.int .i64 (s * q))).far (p := ⟨w.heap.size + 1 + 1, 8, none⟩) (by simp) (.int .i64 (2 + q + s * q))).far (p := ⟨w.heap.size + 1 + 1, 9, none⟩) (by simp) (.int .i64 (s * q))
  have hb8 := (((hb7.setCell (p := ⟨w.heap.size + 1 + 1, 6, none⟩) (by simp; omega) (.int .i64 (2 + q))).setCell (p := ⟨w.heap.size + 1 + 1, 7, none⟩) (by simp; omega) (.int .i64 (s * q))).setCell (p := ⟨w.heap.size + 1 + 1, 8, none⟩) (by simp; omega) (.int .i64 (2 + q + s * q))).setCell (p := ⟨w.heap.size + 1 + 1, 9, none⟩) (by simp; omega) (.int .i64 (s * q))
  generalize (((w7.setCell ⟨w.heap.size + 1 + 1, 6, none⟩ (.int .i64 (2 + q))).setCell ⟨w.heap.size + 1 + 1, 7, none⟩ (.int .i64 (s * q))).setCell ⟨w.heap.size + 1 + 1, 8, none⟩ (.int .i64 (2 + q + s * q))).setCell ⟨w.heap.size + 1 + 1, 9, none⟩ (.int .i64 (s * q)) = w8 at *
  clear b5 bc5 br5 hb5 b5' bc5' br5' hb5' q2 b6 bc6 g6 b7 bc7 g7 q7 k6 k7 k8 k9 ff7 br7 hb6 hb7
  have m0 : w8.cell? ⟨w.heap.size + 1 + 1, 0, none⟩ = some (.int .i64 0) := b8.cell 0
  have m1 : w8.cell? ⟨w.heap.size + 1 + 1, 1, none⟩ = some (.int .i64 1) := b8.cell 1
  have m2 : w8.cell? ⟨w.heap.size + 1 + 1, 2, none⟩ = some (.int .i64 1) := b8.cell 2
  have m3 : w8.cell? ⟨w.heap.size + 1 + 1, 3, none⟩ = some (.int .i64 1) := b8.cell 3
  have m4 : w8.cell? ⟨w.heap.size + 1 + 1, 4, none⟩ = some (.int .i64 2) := b8.cell 4
  have m5 : w8.cell? ⟨w.heap.size + 1 + 1, 5, none⟩ = some (.int .i64 q) := b8.cell 5
  have m6 : w8.cell? ⟨w.heap.size + 1 + 1, 6, none⟩ = some (.int .i64 (2 + q)) := b8.cell 6
  have m7 : w8.cell? ⟨w.heap.size + 1 + 1, 7, none⟩ = some (.int .i64 (s * q)) := b8.cell 7
  have m8 : w8.cell? ⟨w.heap.size + 1 + 1, 8, none⟩ = some (.int .i64 (2 + q + s * q)) := b8.cell 8
  have m9 : w8.cell? ⟨w.heap.size + 1 + 1, 9, none⟩ = some (.int .i64 (s * q)) := b8.cell 9
  have m10 : w8.cell? ⟨w.heap.size + 1 + 1, 10, none⟩ = some (.int .i64 (2 + q + s * q + s * q)) := by have := b8.cell 10; simpa using this
  have r0 : w8.cell? ⟨w.heap.size + 1, 0, none⟩ = some (.int .i64 0) := br8.cell 0
  have r1 : w8.cell? ⟨w.heap.size + 1, 1, none⟩ = some (.int .i64 0) := br8.cell 1
  have r2 : w8.cell? ⟨w.heap.size + 1, 2, none⟩ = some (.int .i64 0) := br8.cell 2
  have r3 : w8.cell? ⟨w.heap.size + 1, 3, none⟩ = some (.int .i64 0) := br8.cell 3
  have r4 : w8.cell? ⟨w.heap.size + 1, 4, none⟩ = some (.int .i64 0) := br8.cell 4
  have r5 : w8.cell? ⟨w.heap.size + 1, 5, none⟩ = some (.int .i64 0) := br8.cell 5
  have r6 : w8.cell? ⟨w.heap.size + 1, 6, none⟩ = some (.int .i64 0) := br8.cell 6
  have r7 : w8.cell? ⟨w.heap.size + 1, 7, none⟩ = some (.int .i64 0) := br8.cell 7
  have r8 : w8.cell? ⟨w.heap.size + 1, 8, none⟩ = some (.int .i64 0) := br8.cell 8
  have r9 : w8.cell? ⟨w.heap.size + 1, 9, none⟩ = some (.int .i64 0) := br8.cell 9
  have r10 : w8.cell? ⟨w.heap.size + 1, 10, none⟩ = some (.int .i64 0) := br8.cell 10
  have fr := fun i => br8.frozen i
  clear b8
  go_wp2_with fail
  have b9 := (((((((((((br8.set_ 0 (.int .i64 0)).set_ 1 (.int .i64 1)).set_ 2 (.int .i64 1)).set_ 3 (.int .i64 1)).set_ 4 (.int .i64 2)).set_ 5 (.int .i64 q)).set_ 6 (.int .i64 (2 + q))).set_ 7 (.int .i64 (s * q))).set_ 8 (.int .i64 (2 + q + s * q))).set_ 9 (.int .i64 (s * q))).set_ 10 (.int .i64 (2 + q + s * q + s * q)))
  have hb9 := (((((((((((hb8.setCell (p := ⟨w.heap.size + 1, 0, none⟩) (by simp) (.int .i64 0)).setCell (p := ⟨w.heap.size + 1, 1, none⟩) (by simp) (.int .i64 1)).setCell (p := ⟨w.heap.size + 1, 2, none⟩) (by simp) (.int .i64 1)).setCell (p := ⟨w.heap.size + 1, 3, none⟩) (by simp) (.int .i64 1)).setCell (p := ⟨w.heap.size + 1, 4, none⟩) (by simp) (.int .i64 2)).setCell (p := ⟨w.heap.size + 1, 5, none⟩) (by simp) (.int .i64 q)).setCell (p := ⟨w.heap.size + 1, 6, none⟩) (by simp) (.int .i64 (2 + q))).setCell (p := ⟨w.heap.size + 1, 7, none⟩) (by simp) (.int .i64 (s * q))).setCell (p := ⟨w.heap.size + 1, 8, none⟩) (by simp) (.int .i64 (2 + q + s * q))).setCell (p := ⟨w.heap.size + 1, 9, none⟩) (by simp) (.int .i64 (s * q))).setCell (p := ⟨w.heap.size + 1, 10, none⟩) (by simp) (.int .i64 (2 + q + s * q + s * q)))
  generalize (((((((((((w8.setCell ⟨w.heap.size + 1, 0, none⟩ (.int .i64 0)).setCell ⟨w.heap.size + 1, 1, none⟩ (.int .i64 1)).setCell ⟨w.heap.size + 1, 2, none⟩ (.int .i64 1)).setCell ⟨w.heap.size + 1, 3, none⟩ (.int .i64 1)).setCell ⟨w.heap.size + 1, 4, none⟩ (.int .i64 2)).setCell ⟨w.heap.size + 1, 5, none⟩ (.int .i64 q)).setCell ⟨w.heap.size + 1, 6, none⟩ (.int .i64 (2 + q))).setCell ⟨w.heap.size + 1, 7, none⟩ (.int .i64 (s * q))).setCell ⟨w.heap.size + 1, 8, none⟩ (.int .i64 (2 + q + s * q))).setCell ⟨w.heap.size + 1, 9, none⟩ (.int .i64 (s * q))).setCell ⟨w.heap.size + 1, 10, none⟩ (.int .i64 (2 + q + s * q + s * q))) = w9 at *
  have e0 : w9.cell? ⟨w.heap.size + 1, 0, none⟩ = some (.int .i64 0) := b9.cell 0
  have e1 : w9.cell? ⟨w.heap.size + 1, 1, none⟩ = some (.int .i64 1) := b9.cell 1
  have e2 : w9.cell? ⟨w.heap.size + 1, 2, none⟩ = some (.int .i64 1) := b9.cell 2
  have e3 : w9.cell? ⟨w.heap.size + 1, 3, none⟩ = some (.int .i64 1) := b9.cell 3
  have e4 : w9.cell? ⟨w.heap.size + 1, 4, none⟩ = some (.int .i64 2) := b9.cell 4
  have e5 : w9.cell? ⟨w.heap.size + 1, 5, none⟩ = some (.int .i64 q) := b9.cell 5
  have e6 : w9.cell? ⟨w.heap.size + 1, 6, none⟩ = some (.int .i64 (2 + q)) := b9.cell 6
  have e7 : w9.cell? ⟨w.heap.size + 1, 7, none⟩ = some (.int .i64 (s * q)) := b9.cell 7
  have e8 : w9.cell? ⟨w.heap.size + 1, 8, none⟩ = some (.int .i64 (2 + q + s * q)) := b9.cell 8
  have e9 : w9.cell? ⟨w.heap.size + 1, 9, none⟩ = some (.int .i64 (s * q)) := b9.cell 9
  have e10 : w9.cell? ⟨w.heap.size + 1, 10, none⟩ = some (.int .i64 (2 + q + s * q + s * q)) := b9.cell 10
  refine bodyPost_ret (v := mapV q s) ?_ rfl ⟨rfl, hb9⟩
  unfold mapV
  simp [results, Tryd.results84, go_sem, e0, e1, e2, e3, e4, e5, e6, e7, e8, e9, e10]
end Go.Proofs.YtpnodocjpedcmaaDoor.Prt

namespace Go.Proofs.YtpnodocjpedcmaaDoor.Prt
open Go.ChangeShapes Go.WideShapes Go.ChangeAt Go.RowKit Go.Proofs.YtpnodocjpedcmaaDoor.Kit

theorem isin_yes (x a b : Int) (w : World) (h : a ≤ x ∧ x ≤ b) : Calls Tryd.prog 96 #[.int .i64 x, .int .i64 a, .int .i64 b] w fun e w' => e = .returned (.bool true) ∧ w = w' := by
  have := isin_any x a b w
  rwa [decide_eq_true h] at this
theorem isin_no (x a b : Int) (w : World) (h : ¬ (a ≤ x ∧ x ≤ b)) : Calls Tryd.prog 96 #[.int .i64 x, .int .i64 a, .int .i64 b] w fun e w' => e = .returned (.bool false) ∧ w = w' := by
  have := isin_any x a b w
  rwa [decide_eq_false h] at this

theorem field3 (v0 v1 v2 v3 v4 v5 v6 v7 v8 v9 v10 : Value) (w : World) : (Instr.field 45 (.agg #[v0, v1, v2, v3, v4, v5, v6, v7, v8, v9, v10]) 3).run Tryd.prog w = .ok v10 w := by kernel_rfl

def mayB (S B s : Int) : Bool := decide ((128 ≤ S ∧ S ≤ 4096) ∧ (128 ≤ B ∧ B ≤ 4096) ∧ B % S = 0 ∧ (1 ≤ s ∧ s ≤ 4096) ∧ 2 + B / S + s * (B / S) + s * (B / S) ≤ 1048576)

set_option maxRecDepth 100000 in
set_option maxHeartbeats 1600000 in
theorem may_any (S B s : Int) (w : World) : Calls Tryd.prog 83 #[.agg #[.int .i64 S, .int .i64 B, .int .i64 s]] w (Gives (.bool (mayB S B s)) w) := by
  have hb0 : Below w.heap.size w (w.alloc (.cells #[.int .i64 S, .int .i64 B, .int .i64 s] 61)) := (Below.refl _ _).alloc (Nat.le_refl _) _
  have out : ∀ P : Prop, (mayB S B s = true → P) → ¬ P → mayB S B s = false := fun P h hn => by
    cases hm : mayB S B s with
    | false => rfl
    | true => exact absurd (h hm) hn
  have hd : mayB S B s = true → (128 ≤ S ∧ S ≤ 4096) ∧ (128 ≤ B ∧ B ≤ 4096) ∧ B % S = 0 ∧ (1 ≤ s ∧ s ≤ 4096) ∧ 2 + B / S + s * (B / S) + s * (B / S) ≤ 1048576 := fun h => of_decide_eq_true h
  by_cases h1 : 128 ≤ S ∧ S ≤ 4096
  · by_cases h2 : 128 ≤ B ∧ B ≤ 4096
    · by_cases h3 : B % S = 0
      · have q3 : (B % S == 0) = true := by simpa using h3
        by_cases h4 : 1 ≤ s ∧ s ≤ 4096
        · obtain ⟨q, hq⟩ : ∃ q, B / S = q := ⟨_, rfl⟩
          have gl := fun W => lay_any S B s q W h1 h2 h4 hq
          unfold mapV at gl
          have hf3 := field3
          have GL := Lib.hid gl
          by_cases h5 : 2 + q + s * q + s * q ≤ 1048576
          · have hm : mayB S B s = true := decide_eq_true ⟨h1, h2, h3, h4, by rw [hq]; exact h5⟩
            rw [hm]
            clear hm out hd hq h3 gl
            go_enter Tryd.func83, Tryd.ntmps83
            go_wp2_with (first
              | (go_at_call 96; refine (isin_yes _ _ _ _ (by omega)).mono ?_; rintro e w' ⟨rfl, rfl⟩)
              | (go_at_call 84; refine (GL.out _).mono ?_; rintro e w2 ⟨rfl, hb2⟩))
            go_ret
            exact ⟨rfl, hb0.trans (hb2.mono (by simp))⟩
          · have hm : mayB S B s = false := out _ hd (fun h => h5 (by have := h.2.2.2.2; rwa [hq] at this))
            rw [hm]
            clear hm out hd hq h3 gl
            go_enter Tryd.func83, Tryd.ntmps83
            have q5 : decide (2 + q + s * q + s * q ≤ 1048576) = false := by simpa using h5
            go_wp2_with (first
              | (go_at_call 96; refine (isin_yes _ _ _ _ (by omega)).mono ?_; rintro e w' ⟨rfl, rfl⟩)
              | (go_at_call 84; refine (GL.out _).mono ?_; rintro e w2 ⟨rfl, hb2⟩))
            go_ret
            exact ⟨rfl, hb0.trans (hb2.mono (by simp))⟩
        · have hm : mayB S B s = false := out _ hd (fun h => h4 h.2.2.2.1)
          rw [hm]
          clear hm out hd h3
          have H4 := Lib.hid h4
          clear h4
          go_enter Tryd.func83, Tryd.ntmps83
          go_wp2_with (first
            | (go_at_call 96; refine (isin_yes _ _ _ _ (by omega)).mono ?_; rintro e w' ⟨rfl, rfl⟩)
            | (go_at_call 96; refine (isin_no _ _ _ _ H4.out).mono ?_; rintro e w' ⟨rfl, rfl⟩))
          go_ret
          exact ⟨rfl, hb0⟩
      · have hm : mayB S B s = false := out _ hd (fun h => h3 h.2.2.1)
        have q3 : (B % S == 0) = false := by simpa using h3
        rw [hm]
        clear hm out hd h3
        go_enter Tryd.func83, Tryd.ntmps83
        go_wp2_with (go_at_call 96; refine (isin_yes _ _ _ _ (by omega)).mono ?_; rintro e w' ⟨rfl, rfl⟩)
        go_ret
        exact ⟨rfl, hb0⟩
    · have hm : mayB S B s = false := out _ hd (fun h => h2 h.2.1)
      rw [hm]
      clear hm out hd
      have H2 := Lib.hid h2
      clear h2
      go_enter Tryd.func83, Tryd.ntmps83
      go_wp2_with (first
        | (go_at_call 96; refine (isin_yes _ _ _ _ (by omega)).mono ?_; rintro e w' ⟨rfl, rfl⟩)
        | (go_at_call 96; refine (isin_no _ _ _ _ H2.out).mono ?_; rintro e w' ⟨rfl, rfl⟩))
      go_ret
      exact ⟨rfl, hb0⟩
  · have hm : mayB S B s = false := out _ hd (fun h => h1 h.1)
    rw [hm]
    clear hm out hd
    have H1 := Lib.hid h1
    clear h1
    go_enter Tryd.func83, Tryd.ntmps83
    go_wp2_with (go_at_call 96; refine (isin_no _ _ _ _ H1.out).mono ?_; rintro e w' ⟨rfl, rfl⟩)
    go_ret
    exact ⟨rfl, hb0⟩
end Go.Proofs.YtpnodocjpedcmaaDoor.Prt

namespace Go.Proofs.YtpnodocjpedcmaaDoor.Prt
open Go.ChangeShapes Go.WideShapes Go.ChangeAt Go.RowKit Go.Proofs.YtpnodocjpedcmaaDoor.Kit

set_option maxRecDepth 100000 in
set_option maxHeartbeats 3200000 in
theorem rmay_any (S B s : Int) (w : World) : Calls Tryd.prog 39 #[.agg #[.int .i64 S, .int .i64 B, .int .i64 s]] w (Gives (.bool (mayB S B s)) w) := by
  have hb0 : Below w.heap.size w (w.alloc (.cells #[.int .i64 S, .int .i64 B, .int .i64 s] 61)) := (Below.refl _ _).alloc (Nat.le_refl _) _
  have blk := Block.new w 61 #[.int .i64 S, .int .i64 B, .int .i64 s]
  have out : ∀ P : Prop, (mayB S B s = true → P) → ¬ P → mayB S B s = false := fun P h hn => by
    cases hm : mayB S B s with
    | false => rfl
    | true => exact absurd (h hm) hn
  have hd : mayB S B s = true → (128 ≤ S ∧ S ≤ 4096) ∧ (128 ≤ B ∧ B ≤ 4096) ∧ B % S = 0 ∧ (1 ≤ s ∧ s ≤ 4096) ∧ 2 + B / S + s * (B / S) + s * (B / S) ≤ 1048576 := fun h => of_decide_eq_true h
  by_cases h0 : S < 128
  · rw [out _ hd (by omega)]
    clear out hd blk
    go_enter Tryd.func39, Tryd.ntmps39
    go_wp2
    go_ret
    exact ⟨rfl, hb0⟩
  by_cases h1 : 4096 < S
  · rw [out _ hd (by omega)]
    clear out hd blk
    go_enter Tryd.func39, Tryd.ntmps39
    go_wp2
    go_ret
    exact ⟨rfl, hb0⟩
  by_cases h2 : B < 128
  · rw [out _ hd (by omega)]
    clear out hd blk
    go_enter Tryd.func39, Tryd.ntmps39
    go_wp2
    go_ret
    exact ⟨rfl, hb0⟩
  by_cases h3 : 4096 < B
  · rw [out _ hd (by omega)]
    clear out hd blk
    go_enter Tryd.func39, Tryd.ntmps39
    go_wp2
    go_ret
    exact ⟨rfl, hb0⟩
  by_cases h4 : s < 1
  · rw [out _ hd (by omega)]
    clear out hd blk
    go_enter Tryd.func39, Tryd.ntmps39
    go_wp2
    go_ret
    exact ⟨rfl, hb0⟩
  by_cases h5 : 4096 < s
  · rw [out _ hd (by omega)]
    clear out hd blk
    go_enter Tryd.func39, Tryd.ntmps39
    go_wp2
    go_ret
    exact ⟨rfl, hb0⟩
  by_cases h6 : B % S = 0
  · have q6 : (B % S != 0) = false := by simpa using h6
    obtain ⟨q, hq⟩ : ∃ q, B / S = q := ⟨_, rfl⟩
    have hqb : 0 ≤ q ∧ q ≤ 32 := by
      have h0 : 0 ≤ q := by rw [← hq]; exact Int.ediv_nonneg (by omega) (by omega)
      have h1 : q * S ≤ B := by rw [← hq]; exact Int.ediv_mul_le B (by omega)
      have h2 : q * 128 ≤ q * S := Int.mul_le_mul_of_nonneg_left (by omega) h0
      omega
    have hsq : 0 ≤ s * q ∧ s * q ≤ 131072 := by
      have h1 : s * q ≤ s * 32 := Int.mul_le_mul_of_nonneg_left hqb.2 (by omega)
      exact ⟨Int.mul_nonneg (by omega) hqb.1, by omega⟩
    have h2sq : 2 * s * q = s * q + s * q := by rw [Int.mul_assoc, Int.two_mul]
    obtain ⟨p, hp⟩ : ∃ p, 2 * s * q = p := ⟨_, rfl⟩
    have hpb : 0 ≤ p ∧ p ≤ 262144 := by omega
    have hwp : IntKind.i64.wrap p = p := IntWalk.i64_in _ (by omega)
    have c0 : (w.alloc (.cells #[.int .i64 S, .int .i64 B, .int .i64 s] 61)).cell? ⟨w.heap.size, 0, none⟩ = some (.int .i64 S) := blk.cell 0
    have c1 : (w.alloc (.cells #[.int .i64 S, .int .i64 B, .int .i64 s] 61)).cell? ⟨w.heap.size, 1, none⟩ = some (.int .i64 B) := blk.cell 1
    have c2 : (w.alloc (.cells #[.int .i64 S, .int .i64 B, .int .i64 s] 61)).cell? ⟨w.heap.size, 2, none⟩ = some (.int .i64 s) := blk.cell 2
    have e : mayB S B s = decide (2 + q + p ≤ 1048576) := by
      unfold mayB
      rw [hq]
      by_cases h7 : 2 + q + p ≤ 1048576
      · rw [decide_eq_true h7, decide_eq_true (show _ from ⟨by omega, by omega, h6, by omega, by omega⟩)]
      · rw [decide_eq_false h7, decide_eq_false (fun h => h7 (by have := h.2.2.2.2; omega))]
    rw [e]
    clear out hd blk h6 h2sq hsq e
    go_enter Tryd.func39, Tryd.ntmps39
    go_wp2_with fail
    go_quiet (fail)
    go_wp2_with fail
    go_ret
    exact ⟨rfl, below_draws hb0 _⟩
  · have q6 : (B % S != 0) = true := by simpa using h6
    rw [out _ hd (by omega)]
    clear out hd blk h6
    go_enter Tryd.func39, Tryd.ntmps39
    go_wp2
    go_ret
    exact ⟨rfl, hb0⟩
end Go.Proofs.YtpnodocjpedcmaaDoor.Prt

namespace Go.Proofs.YtpnodocjpedcmaaDoor.Prt
open Go.ChangeShapes Go.WideShapes Go.ChangeAt Go.RowKit Go.Proofs.YtpnodocjpedcmaaDoor.Kit

theorem q_bd (S B s q : Int) (hS : 128 ≤ S ∧ S ≤ 4096) (hB : 128 ≤ B ∧ B ≤ 4096) (hs : 1 ≤ s ∧ s ≤ 4096) (hq : B / S = q) : (1 ≤ S → 0 ≤ q ∧ q ≤ 32) ∧ 0 ≤ s * q ∧ s * q ≤ 131072 := by
  have h0 : 0 ≤ q := by rw [← hq]; exact Int.ediv_nonneg (by omega) (by omega)
  have h1 : q * S ≤ B := by rw [← hq]; exact Int.ediv_mul_le B (by omega)
  have h2 : q * 128 ≤ q * S := Int.mul_le_mul_of_nonneg_left hS.1 h0
  have h3 : s * q ≤ s * 32 := Int.mul_le_mul_of_nonneg_left (show q ≤ 32 by omega) (by omega)
  exact ⟨fun _ => ⟨h0, by omega⟩, Int.mul_nonneg (by omega) h0, by omega⟩

set_option maxRecDepth 100000 in
set_option maxHeartbeats 1600000 in
theorem rlayout_any (S B s q : Int) (w : World) (hS : 128 ≤ S ∧ S ≤ 4096) (hB : 128 ≤ B ∧ B ≤ 4096) (hs : 1 ≤ s ∧ s ≤ 4096) (hq : B / S = q) :
    Calls Tryd.prog 27 #[.agg #[.int .i64 S, .int .i64 B, .int .i64 s]] w (Gives (mapV q s) w) := by
  obtain ⟨hqb, hsq⟩ := q_bd S B s q hS hB hs hq
  have hqb := hqb (by omega)
  obtain ⟨p, hp⟩ : ∃ p, s * q = p := ⟨_, rfl⟩
  unfold mapV
  rw [hp] at hsq ⊢
  have hp2 : q * s = p := by rw [Int.mul_comm]; exact hp
  have hwp : IntKind.i64.wrap p = p := IntWalk.i64_in _ (by omega)
  have hall : 2 + q + 2 * p = 2 + q + p + p := by omega
  clear hp
  go_enter Tryd.func27, Tryd.ntmps27
  go_wp2
  have blk := Block.new (w.alloc (.cells #[.int .i64 S, .int .i64 B, .int .i64 s] 61)) 45 #[.int .i64 0, .int .i64 1, .int .i64 1, .int .i64 1, .int .i64 2, .int .i64 q, .int .i64 (2 + q), .int .i64 p, .int .i64 (2 + q + p), .int .i64 p, .int .i64 (2 + q + p + p)]
  have hb : Below w.heap.size w ((w.alloc (.cells #[.int .i64 S, .int .i64 B, .int .i64 s] 61)).alloc (.cells #[.int .i64 0, .int .i64 1, .int .i64 1, .int .i64 1, .int .i64 2, .int .i64 q, .int .i64 (2 + q), .int .i64 p, .int .i64 (2 + q + p), .int .i64 p, .int .i64 (2 + q + p + p)] 45)) := ((Below.refl _ _).alloc (Nat.le_refl _) _).alloc (by simp) _
  generalize (w.alloc (.cells #[.int .i64 S, .int .i64 B, .int .i64 s] 61)).alloc (.cells #[.int .i64 0, .int .i64 1, .int .i64 1, .int .i64 1, .int .i64 2, .int .i64 q, .int .i64 (2 + q), .int .i64 p, .int .i64 (2 + q + p), .int .i64 p, .int .i64 (2 + q + p + p)] 45) = w9 at *
  have hsz : (w.alloc (.cells #[.int .i64 S, .int .i64 B, .int .i64 s] 61)).heap.size = w.heap.size + 1 := by simp
  rw [hsz] at blk
  have e0 : w9.cell? ⟨w.heap.size + 1, 0, none⟩ = some (.int .i64 0) := blk.cell 0
  have e1 : w9.cell? ⟨w.heap.size + 1, 1, none⟩ = some (.int .i64 1) := blk.cell 1
  have e2 : w9.cell? ⟨w.heap.size + 1, 2, none⟩ = some (.int .i64 1) := blk.cell 2
  have e3 : w9.cell? ⟨w.heap.size + 1, 3, none⟩ = some (.int .i64 1) := blk.cell 3
  have e4 : w9.cell? ⟨w.heap.size + 1, 4, none⟩ = some (.int .i64 2) := blk.cell 4
  have e5 : w9.cell? ⟨w.heap.size + 1, 5, none⟩ = some (.int .i64 q) := blk.cell 5
  have e6 : w9.cell? ⟨w.heap.size + 1, 6, none⟩ = some (.int .i64 (2 + q)) := blk.cell 6
  have e7 : w9.cell? ⟨w.heap.size + 1, 7, none⟩ = some (.int .i64 p) := blk.cell 7
  have e8 : w9.cell? ⟨w.heap.size + 1, 8, none⟩ = some (.int .i64 (2 + q + p)) := blk.cell 8
  have e9 : w9.cell? ⟨w.heap.size + 1, 9, none⟩ = some (.int .i64 p) := blk.cell 9
  have e10 : w9.cell? ⟨w.heap.size + 1, 10, none⟩ = some (.int .i64 (2 + q + p + p)) := blk.cell 10
  refine bodyPost_ret (v := .agg #[.int .i64 0, .int .i64 1, .int .i64 1, .int .i64 1, .int .i64 2, .int .i64 q, .int .i64 (2 + q), .int .i64 p, .int .i64 (2 + q + p), .int .i64 p, .int .i64 (2 + q + p + p)]) ?_ rfl ⟨rfl, hb⟩
  simp [results, Tryd.results27, go_sem, e0, e1, e2, e3, e4, e5, e6, e7, e8, e9, e10]

theorem may_facts {S B s : Int} (h : mayB S B s = true) : (128 ≤ S ∧ S ≤ 4096) ∧ (128 ≤ B ∧ B ≤ 4096) ∧ (1 ≤ s ∧ s ≤ 4096) := by
  have := of_decide_eq_true h
  exact ⟨this.1, this.2.1, this.2.2.2.1⟩

def zeroMap : Value := .agg #[.int .i64 0, .int .i64 0, .int .i64 0, .int .i64 0, .int .i64 0, .int .i64 0, .int .i64 0, .int .i64 0, .int .i64 0, .int .i64 0, .int .i64 0]

set_option maxRecDepth 100000 in
set_option maxHeartbeats 1600000 in
theorem layout_no (S B s : Int) (w : World) (h : mayB S B s = false) : Calls Tryd.prog 56 #[.agg #[.int .i64 S, .int .i64 B, .int .i64 s]] w (Gives (.tuple #[zeroMap, .int .i64 1]) w) := by
  have gm := fun W => may_any S B s W
  rw [h] at gm
  have GM := Lib.hid gm
  clear gm h
  unfold zeroMap
  have br : Block ((w.alloc (.cells #[.int .i64 S, .int .i64 B, .int .i64 s] 61)).alloc (.cells #[.int .i64 0, .int .i64 0, .int .i64 0, .int .i64 0, .int .i64 0, .int .i64 0, .int .i64 0, .int .i64 0, .int .i64 0, .int .i64 0, .int .i64 0] 45)) (w.heap.size + 1) 45 #[.int .i64 0, .int .i64 0, .int .i64 0, .int .i64 0, .int .i64 0, .int .i64 0, .int .i64 0, .int .i64 0, .int .i64 0, .int .i64 0, .int .i64 0] := by
    have := Block.new (w.alloc (.cells #[.int .i64 S, .int .i64 B, .int .i64 s] 61)) 45 #[.int .i64 0, .int .i64 0, .int .i64 0, .int .i64 0, .int .i64 0, .int .i64 0, .int .i64 0, .int .i64 0, .int .i64 0, .int .i64 0, .int .i64 0]
    simpa using this
  have bc := (Block.new w 61 #[.int .i64 S, .int .i64 B, .int .i64 s]).alloc (.cells #[.int .i64 0, .int .i64 0, .int .i64 0, .int .i64 0, .int .i64 0, .int .i64 0, .int .i64 0, .int .i64 0, .int .i64 0, .int .i64 0, .int .i64 0] 45)
  have hb : Below w.heap.size w ((w.alloc (.cells #[.int .i64 S, .int .i64 B, .int .i64 s] 61)).alloc (.cells #[.int .i64 0, .int .i64 0, .int .i64 0, .int .i64 0, .int .i64 0, .int .i64 0, .int .i64 0, .int .i64 0, .int .i64 0, .int .i64 0, .int .i64 0] 45)) := ((Below.refl _ _).alloc (Nat.le_refl _) _).alloc (by simp) _
  go_enter Tryd.func56, Tryd.ntmps56
  go_wp2_with fail
  have hsz : ((w.alloc (.cells #[.int .i64 S, .int .i64 B, .int .i64 s] 61)).alloc (.cells #[.int .i64 0, .int .i64 0, .int .i64 0, .int .i64 0, .int .i64 0, .int .i64 0, .int .i64 0, .int .i64 0, .int .i64 0, .int .i64 0, .int .i64 0] 45)).heap.size = w.heap.size + 2 := by simp
  generalize (w.alloc (.cells #[.int .i64 S, .int .i64 B, .int .i64 s] 61)).alloc (.cells #[.int .i64 0, .int .i64 0, .int .i64 0, .int .i64 0, .int .i64 0, .int .i64 0, .int .i64 0, .int .i64 0, .int .i64 0, .int .i64 0, .int .i64 0] 45) = w1 at *
  have Hsz := Lib.hid hsz
  clear hsz
  refine (GM.out _).mono ?_
  rintro e w2 ⟨rfl, hb2⟩
  have br2 := br.below hb2 (by rw [Hsz.out]; omega)
  have hb12 := hb.trans (hb2.mono hb.size)
  clear br bc hb hb2
  have z0 : w2.cell? ⟨w.heap.size + 1, 0, none⟩ = some (.int .i64 0) := br2.cell 0
  have z1 : w2.cell? ⟨w.heap.size + 1, 1, none⟩ = some (.int .i64 0) := br2.cell 1
  have z2 : w2.cell? ⟨w.heap.size + 1, 2, none⟩ = some (.int .i64 0) := br2.cell 2
  have z3 : w2.cell? ⟨w.heap.size + 1, 3, none⟩ = some (.int .i64 0) := br2.cell 3
  have z4 : w2.cell? ⟨w.heap.size + 1, 4, none⟩ = some (.int .i64 0) := br2.cell 4
  have z5 : w2.cell? ⟨w.heap.size + 1, 5, none⟩ = some (.int .i64 0) := br2.cell 5
  have z6 : w2.cell? ⟨w.heap.size + 1, 6, none⟩ = some (.int .i64 0) := br2.cell 6
  have z7 : w2.cell? ⟨w.heap.size + 1, 7, none⟩ = some (.int .i64 0) := br2.cell 7
  have z8 : w2.cell? ⟨w.heap.size + 1, 8, none⟩ = some (.int .i64 0) := br2.cell 8
  have z9 : w2.cell? ⟨w.heap.size + 1, 9, none⟩ = some (.int .i64 0) := br2.cell 9
  have z10 : w2.cell? ⟨w.heap.size + 1, 10, none⟩ = some (.int .i64 0) := br2.cell 10
  have ff := fun i => br2.frozen i
  go_wp2_with fail
  have b9 := (((((((((((br2.set_ 0 (.int .i64 0)).set_ 1 (.int .i64 0)).set_ 2 (.int .i64 0)).set_ 3 (.int .i64 0)).set_ 4 (.int .i64 0)).set_ 5 (.int .i64 0)).set_ 6 (.int .i64 0)).set_ 7 (.int .i64 0)).set_ 8 (.int .i64 0)).set_ 9 (.int .i64 0)).set_ 10 (.int .i64 0))
  have hb9 := (((((((((((hb12.setCell (p := ⟨w.heap.size + 1, 0, none⟩) (by simp) (.int .i64 0)).setCell (p := ⟨w.heap.size + 1, 1, none⟩) (by simp) (.int .i64 0)).setCell (p := ⟨w.heap.size + 1, 2, none⟩) (by simp) (.int .i64 0)).setCell (p := ⟨w.heap.size + 1, 3, none⟩) (by simp) (.int .i64 0)).setCell (p := ⟨w.heap.size + 1, 4, none⟩) (by simp) (.int .i64 0)).setCell (p := ⟨w.heap.size + 1, 5, none⟩) (by simp) (.int .i64 0)).setCell (p := ⟨w.heap.size + 1, 6, none⟩) (by simp) (.int .i64 0)).setCell (p := ⟨w.heap.size + 1, 7, none⟩) (by simp) (.int .i64 0)).setCell (p := ⟨w.heap.size + 1, 8, none⟩) (by simp) (.int .i64 0)).setCell (p := ⟨w.heap.size + 1, 9, none⟩) (by simp) (.int .i64 0)).setCell (p := ⟨w.heap.size + 1, 10, none⟩) (by simp) (.int .i64 0))
  generalize (((((((((((w2.setCell ⟨w.heap.size + 1, 0, none⟩ (.int .i64 0)).setCell ⟨w.heap.size + 1, 1, none⟩ (.int .i64 0)).setCell ⟨w.heap.size + 1, 2, none⟩ (.int .i64 0)).setCell ⟨w.heap.size + 1, 3, none⟩ (.int .i64 0)).setCell ⟨w.heap.size + 1, 4, none⟩ (.int .i64 0)).setCell ⟨w.heap.size + 1, 5, none⟩ (.int .i64 0)).setCell ⟨w.heap.size + 1, 6, none⟩ (.int .i64 0)).setCell ⟨w.heap.size + 1, 7, none⟩ (.int .i64 0)).setCell ⟨w.heap.size + 1, 8, none⟩ (.int .i64 0)).setCell ⟨w.heap.size + 1, 9, none⟩ (.int .i64 0)).setCell ⟨w.heap.size + 1, 10, none⟩ (.int .i64 0)) = w9 at *
  have e0 : w9.cell? ⟨w.heap.size + 1, 0, none⟩ = some (.int .i64 0) := b9.cell 0
  have e1 : w9.cell? ⟨w.heap.size + 1, 1, none⟩ = some (.int .i64 0) := b9.cell 1
  have e2 : w9.cell? ⟨w.heap.size + 1, 2, none⟩ = some (.int .i64 0) := b9.cell 2
  have e3 : w9.cell? ⟨w.heap.size + 1, 3, none⟩ = some (.int .i64 0) := b9.cell 3
  have e4 : w9.cell? ⟨w.heap.size + 1, 4, none⟩ = some (.int .i64 0) := b9.cell 4
  have e5 : w9.cell? ⟨w.heap.size + 1, 5, none⟩ = some (.int .i64 0) := b9.cell 5
  have e6 : w9.cell? ⟨w.heap.size + 1, 6, none⟩ = some (.int .i64 0) := b9.cell 6
  have e7 : w9.cell? ⟨w.heap.size + 1, 7, none⟩ = some (.int .i64 0) := b9.cell 7
  have e8 : w9.cell? ⟨w.heap.size + 1, 8, none⟩ = some (.int .i64 0) := b9.cell 8
  have e9 : w9.cell? ⟨w.heap.size + 1, 9, none⟩ = some (.int .i64 0) := b9.cell 9
  have e10 : w9.cell? ⟨w.heap.size + 1, 10, none⟩ = some (.int .i64 0) := b9.cell 10
  refine bodyPost_ret (v := .tuple #[.agg #[.int .i64 0, .int .i64 0, .int .i64 0, .int .i64 0, .int .i64 0, .int .i64 0, .int .i64 0, .int .i64 0, .int .i64 0, .int .i64 0, .int .i64 0], .int .i64 1]) ?_ rfl ⟨rfl, hb9⟩
  simp [results, Tryd.results56, go_sem, e0, e1, e2, e3, e4, e5, e6, e7, e8, e9, e10]

set_option maxRecDepth 100000 in
set_option maxHeartbeats 1600000 in
theorem layout_yes (S B s q : Int) (w : World) (h : mayB S B s = true) (hq : B / S = q) : Calls Tryd.prog 56 #[.agg #[.int .i64 S, .int .i64 B, .int .i64 s]] w (Gives (.tuple #[mapV q s, .int .i64 0]) w) := by
  have gm := fun W => may_any S B s W
  obtain ⟨hS, hB, hs⟩ := may_facts h
  rw [h] at gm
  have GM := Lib.hid gm
  have gl := fun W => lay_any S B s q W hS hB hs hq
  unfold mapV at gl ⊢
  have GL := Lib.hid gl
  clear gm h gl hq hS hB hs
  have br : Block ((w.alloc (.cells #[.int .i64 S, .int .i64 B, .int .i64 s] 61)).alloc (.cells #[.int .i64 0, .int .i64 0, .int .i64 0, .int .i64 0, .int .i64 0, .int .i64 0, .int .i64 0, .int .i64 0, .int .i64 0, .int .i64 0, .int .i64 0] 45)) (w.heap.size + 1) 45 #[.int .i64 0, .int .i64 0, .int .i64 0, .int .i64 0, .int .i64 0, .int .i64 0, .int .i64 0, .int .i64 0, .int .i64 0, .int .i64 0, .int .i64 0] := by
    have := Block.new (w.alloc (.cells #[.int .i64 S, .int .i64 B, .int .i64 s] 61)) 45 #[.int .i64 0, .int .i64 0, .int .i64 0, .int .i64 0, .int .i64 0, .int .i64 0, .int .i64 0, .int .i64 0, .int .i64 0, .int .i64 0, .int .i64 0]
    simpa using this
  have bc := (Block.new w 61 #[.int .i64 S, .int .i64 B, .int .i64 s]).alloc (.cells #[.int .i64 0, .int .i64 0, .int .i64 0, .int .i64 0, .int .i64 0, .int .i64 0, .int .i64 0, .int .i64 0, .int .i64 0, .int .i64 0, .int .i64 0] 45)
  have hb : Below w.heap.size w ((w.alloc (.cells #[.int .i64 S, .int .i64 B, .int .i64 s] 61)).alloc (.cells #[.int .i64 0, .int .i64 0, .int .i64 0, .int .i64 0, .int .i64 0, .int .i64 0, .int .i64 0, .int .i64 0, .int .i64 0, .int .i64 0, .int .i64 0] 45)) := ((Below.refl _ _).alloc (Nat.le_refl _) _).alloc (by simp) _
  go_enter Tryd.func56, Tryd.ntmps56
  go_wp2_with fail
  have hsz : ((w.alloc (.cells #[.int .i64 S, .int .i64 B, .int .i64 s] 61)).alloc (.cells #[.int .i64 0, .int .i64 0, .int .i64 0, .int .i64 0, .int .i64 0, .int .i64 0, .int .i64 0, .int .i64 0, .int .i64 0, .int .i64 0, .int .i64 0] 45)).heap.size = w.heap.size + 2 := by simp
  generalize (w.alloc (.cells #[.int .i64 S, .int .i64 B, .int .i64 s] 61)).alloc (.cells #[.int .i64 0, .int .i64 0, .int .i64 0, .int .i64 0, .int .i64 0, .int .i64 0, .int .i64 0, .int .i64 0, .int .i64 0, .int .i64 0, .int .i64 0] 45) = w1 at *
  have Hsz := Lib.hid hsz
  clear hsz
  refine (GM.out _).mono ?_
  rintro e w2 ⟨rfl, hb2⟩
  have br1 := br.below hb2 (by rw [Hsz.out]; omega)
  have bc1 := bc.below hb2 (by rw [Hsz.out]; omega)
  have hb11 := hb.trans (hb2.mono hb.size)
  have hs2 : w.heap.size + 2 ≤ w2.heap.size := by have := hb2.size; rw [Hsz.out] at this; exact this
  have c0 : w2.cell? ⟨w.heap.size, 0, none⟩ = some (.int .i64 S) := bc1.cell 0
  have c1 : w2.cell? ⟨w.heap.size, 1, none⟩ = some (.int .i64 B) := bc1.cell 1
  have c2 : w2.cell? ⟨w.heap.size, 2, none⟩ = some (.int .i64 s) := bc1.cell 2
  clear br bc hb hb2 bc1
  go_wp2_with fail
  refine (GL.out _).mono ?_
  rintro e w3 ⟨rfl, hb3⟩
  have br2 := br1.below hb3 (by omega)
  have hb12 := hb11.trans (hb3.mono hb11.size)
  clear br1 hb11 hb3 c0 c1 c2
  have z0 : w3.cell? ⟨w.heap.size + 1, 0, none⟩ = some (.int .i64 0) := br2.cell 0
  have z1 : w3.cell? ⟨w.heap.size + 1, 1, none⟩ = some (.int .i64 0) := br2.cell 1
  have z2 : w3.cell? ⟨w.heap.size + 1, 2, none⟩ = some (.int .i64 0) := br2.cell 2
  have z3 : w3.cell? ⟨w.heap.size + 1, 3, none⟩ = some (.int .i64 0) := br2.cell 3
  have z4 : w3.cell? ⟨w.heap.size + 1, 4, none⟩ = some (.int .i64 0) := br2.cell 4
  have z5 : w3.cell? ⟨w.heap.size + 1, 5, none⟩ = some (.int .i64 0) := br2.cell 5
  have z6 : w3.cell? ⟨w.heap.size + 1, 6, none⟩ = some (.int .i64 0) := br2.cell 6
  have z7 : w3.cell? ⟨w.heap.size + 1, 7, none⟩ = some (.int .i64 0) := br2.cell 7
  have z8 : w3.cell? ⟨w.heap.size + 1, 8, none⟩ = some (.int .i64 0) := br2.cell 8
  have z9 : w3.cell? ⟨w.heap.size + 1, 9, none⟩ = some (.int .i64 0) := br2.cell 9
  have z10 : w3.cell? ⟨w.heap.size + 1, 10, none⟩ = some (.int .i64 0) := br2.cell 10
  have ff := fun i => br2.frozen i
  go_wp2_with fail
  have b9 := (((((((((((br2.set_ 0 (.int .i64 0)).set_ 1 (.int .i64 1)).set_ 2 (.int .i64 1)).set_ 3 (.int .i64 1)).set_ 4 (.int .i64 2)).set_ 5 (.int .i64 q)).set_ 6 (.int .i64 (2 + q))).set_ 7 (.int .i64 (s * q))).set_ 8 (.int .i64 (2 + q + s * q))).set_ 9 (.int .i64 (s * q))).set_ 10 (.int .i64 (2 + q + s * q + s * q)))
  have hb9 := (((((((((((hb12.setCell (p := ⟨w.heap.size + 1, 0, none⟩) (by simp) (.int .i64 0)).setCell (p := ⟨w.heap.size + 1, 1, none⟩) (by simp) (.int .i64 1)).setCell (p := ⟨w.heap.size + 1, 2, none⟩) (by simp) (.int .i64 1)).setCell (p := ⟨w.heap.size + 1, 3, none⟩) (by simp) (.int .i64 1)).setCell (p := ⟨w.heap.size + 1, 4, none⟩) (by simp) (.int .i64 2)).setCell (p := ⟨w.heap.size + 1, 5, none⟩) (by simp) (.int .i64 q)).setCell (p := ⟨w.heap.size + 1, 6, none⟩) (by simp) (.int .i64 (2 + q))).setCell (p := ⟨w.heap.size + 1, 7, none⟩) (by simp) (.int .i64 (s * q))).setCell (p := ⟨w.heap.size + 1, 8, none⟩) (by simp) (.int .i64 (2 + q + s * q))).setCell (p := ⟨w.heap.size + 1, 9, none⟩) (by simp) (.int .i64 (s * q))).setCell (p := ⟨w.heap.size + 1, 10, none⟩) (by simp) (.int .i64 (2 + q + s * q + s * q)))
  generalize (((((((((((w3.setCell ⟨w.heap.size + 1, 0, none⟩ (.int .i64 0)).setCell ⟨w.heap.size + 1, 1, none⟩ (.int .i64 1)).setCell ⟨w.heap.size + 1, 2, none⟩ (.int .i64 1)).setCell ⟨w.heap.size + 1, 3, none⟩ (.int .i64 1)).setCell ⟨w.heap.size + 1, 4, none⟩ (.int .i64 2)).setCell ⟨w.heap.size + 1, 5, none⟩ (.int .i64 q)).setCell ⟨w.heap.size + 1, 6, none⟩ (.int .i64 (2 + q))).setCell ⟨w.heap.size + 1, 7, none⟩ (.int .i64 (s * q))).setCell ⟨w.heap.size + 1, 8, none⟩ (.int .i64 (2 + q + s * q))).setCell ⟨w.heap.size + 1, 9, none⟩ (.int .i64 (s * q))).setCell ⟨w.heap.size + 1, 10, none⟩ (.int .i64 (2 + q + s * q + s * q))) = w9 at *
  have e0 : w9.cell? ⟨w.heap.size + 1, 0, none⟩ = some (.int .i64 0) := b9.cell 0
  have e1 : w9.cell? ⟨w.heap.size + 1, 1, none⟩ = some (.int .i64 1) := b9.cell 1
  have e2 : w9.cell? ⟨w.heap.size + 1, 2, none⟩ = some (.int .i64 1) := b9.cell 2
  have e3 : w9.cell? ⟨w.heap.size + 1, 3, none⟩ = some (.int .i64 1) := b9.cell 3
  have e4 : w9.cell? ⟨w.heap.size + 1, 4, none⟩ = some (.int .i64 2) := b9.cell 4
  have e5 : w9.cell? ⟨w.heap.size + 1, 5, none⟩ = some (.int .i64 q) := b9.cell 5
  have e6 : w9.cell? ⟨w.heap.size + 1, 6, none⟩ = some (.int .i64 (2 + q)) := b9.cell 6
  have e7 : w9.cell? ⟨w.heap.size + 1, 7, none⟩ = some (.int .i64 (s * q)) := b9.cell 7
  have e8 : w9.cell? ⟨w.heap.size + 1, 8, none⟩ = some (.int .i64 (2 + q + s * q)) := b9.cell 8
  have e9 : w9.cell? ⟨w.heap.size + 1, 9, none⟩ = some (.int .i64 (s * q)) := b9.cell 9
  have e10 : w9.cell? ⟨w.heap.size + 1, 10, none⟩ = some (.int .i64 (2 + q + s * q + s * q)) := b9.cell 10
  refine bodyPost_ret (v := .tuple #[.agg #[.int .i64 0, .int .i64 1, .int .i64 1, .int .i64 1, .int .i64 2, .int .i64 q, .int .i64 (2 + q), .int .i64 (s * q), .int .i64 (2 + q + s * q), .int .i64 (s * q), .int .i64 (2 + q + s * q + s * q)], .int .i64 0]) ?_ rfl ⟨rfl, hb9⟩
  simp [results, Tryd.results56, go_sem, e0, e1, e2, e3, e4, e5, e6, e7, e8, e9, e10]
end Go.Proofs.YtpnodocjpedcmaaDoor.Prt

namespace Go.Proofs.YtpnodocjpedcmaaDoor.Kit
open Go.ChangeShapes Go.WideShapes Go.ChangeAt Go.RowKit

theorem wp_exits {P : Program} {o : Oper} {a : Act} {w : World} {K : Act → World → Prop} {Q Q' : Exit → Act → World → Prop} (h : ∀ e a w, Q e a w → Q' e a w) (hh : o.wp P a w K Q) : o.wp P a w K Q' := by
  unfold Oper.wp at *
  generalize (execOp a.eval o).run P w = r at *
  cases r with
  | ok n w' =>
    cases n <;> simp only [Oper.upon] at hh ⊢ <;>
      first
        | exact hh
        | exact Calls.mono hh (fun e w'' he => by
            cases e with
            | returned v => exact he
            | panicked c => exact h _ _ _ he
            | outgrown => obtain ⟨a, w, he⟩ := he; exact ⟨a, w, h _ _ _ he⟩)
  | halt x w' => cases x <;> simp only [Oper.upon] at hh ⊢ <;> first | exact hh | exact h _ _ _ hh

/-- K behind the operation, Q at a panic, and never out of room. -/
def Behind (K : Act → World → Prop) (Q : Exit → Act → World → Prop) : Exit → Act → World → Prop
  | .normal, a, w => K a w
  | .outgrown, _, _ => False
  | e, a, w => Q e a w

theorem step_of_list {P : Program} {ops : Array Oper} {o : Oper} {a : Act} {w : World} {K : Act → World → Prop} {Q : Exit → Act → World → Prop} {E : Prop}
    (hw : Region.wanted o (yielded ops a.tmps) = true) (h : ∀ Q', (∀ a w, K a w → wpList P ops Q' [] a w) → wpList P ops Q' [o] a w) :
    if Region.wanted o (yielded ops a.tmps) = true then Oper.wp P o a w K Q else E := by
  rw [if_pos hw]
  have h1 := h (Behind K Q) (fun _ _ h => h)
  unfold wpList at h1
  rw [if_pos hw] at h1
  rcases h1 with h1 | ⟨_, a', w', h2⟩
  · unfold Oper.wp at *
    generalize (execOp a.eval o).run P w = r at *
    cases r with
    | ok n w' =>
      cases n <;> simp only [Oper.upon] at h1 ⊢ <;>
        first
          | exact h1
          | exact Calls.mono h1 (fun e w'' he => by
              cases e with
              | returned v => exact he
              | panicked c => exact he
              | outgrown => obtain ⟨_, _, he⟩ := he; exact (he : False).elim)
    | halt x w' => cases x <;> simp only [Oper.upon] at h1 ⊢ <;> exact h1
  · exact (h2 : False).elim
end Go.Proofs.YtpnodocjpedcmaaDoor.Kit

namespace Go.Proofs.YtpnodocjpedcmaaDoor.Prt
open Go.ChangeShapes Go.WideShapes Go.ChangeAt Go.RowKit Go.Proofs.YtpnodocjpedcmaaDoor.Kit

theorem eq_region (d : Nat) (a b : Int) (w : World) : (Op.equalIn (d + 2) 42 (.agg #[.int .i64 a, .int .i64 b]) (.agg #[.int .i64 a, .int .i64 b])).run Tryd.prog w = .ok true w := by
  have hf : (Tryd.prog.fieldsOf 42).toList.map (fun f => (f.name != "_", f.type, f.offset)) = [(true, 3, 0), (true, 3, 1)] := by kernel_rfl
  have p0 : (part 3 #[.int .i64 a, .int .i64 b] 0).run Tryd.prog w = .ok (.int .i64 a) w := by kernel_rfl
  have p1 : (part 3 #[.int .i64 a, .int .i64 b] 1).run Tryd.prog w = .ok (.int .i64 b) w := by kernel_rfl
  rw [run_equalIn_struct w (d + 1) _ _ _ (by kernel_rfl) (by kernel_rfl)]
  generalize (Tryd.prog.fieldsOf 42).toList = fs at *
  match fs, (show fs.length = 2 by simpa using congrArg List.length hf), hf with
  | [f0, f1], _, hf =>
    simp at hf
    obtain ⟨⟨n0, t0, o0⟩, ⟨n1, t1, o1⟩⟩ := hf
    have q0 := run_equalIn_int (P := Tryd.prog) w d 3 .i64 .i64 a a Tryd.underlying3
    have q1 := run_equalIn_int (P := Tryd.prog) w d 3 .i64 .i64 b b Tryd.underlying3
    simp [Op.eqFields, n0, n1, t0, t1, o0, o1, p0, p1, q0, q1]

theorem eq_two (d : Nat) (a b c e : Int) (w : World) : (Op.equalIn (d + 3) 43 (.agg #[.int .i64 a, .int .i64 b, .int .i64 c, .int .i64 e]) (.agg #[.int .i64 a, .int .i64 b, .int .i64 c, .int .i64 e])).run Tryd.prog w = .ok true w := by
  obtain ⟨i, hi⟩ : ∃ i, Tryd.prog.info? 42 = some i := Option.isSome_iff_exists.1 (by kernel_rfl)
  have hu : Tryd.prog.underlying 43 = some (.array 2 42) := by kernel_rfl
  have hc : Tryd.prog.cellsOf 42 = 2 := by kernel_rfl
  rw [run_equalIn_array (P := Tryd.prog) (w := w) (d + 2) _ _ hu hi, hc]
  have p0 : (part 42 #[.int .i64 a, .int .i64 b, .int .i64 c, .int .i64 e] (0 * 2)).run Tryd.prog w = .ok (.agg #[.int .i64 a, .int .i64 b]) w := by kernel_rfl
  have p1 : (part 42 #[.int .i64 a, .int .i64 b, .int .i64 c, .int .i64 e] (1 * 2)).run Tryd.prog w = .ok (.agg #[.int .i64 c, .int .i64 e]) w := by kernel_rfl
  have q0 := eq_region d a b w
  have q1 := eq_region d c e w
  rw [show List.range 2 = [0, 1] from rfl]
  simp only [Op.eqItems, Sem.run_bind, p0, p1, q0, q1, Result.andThen_ok, Bool.not_true, Bool.false_eq_true, if_false, Sem.run_pure]

theorem eq_map (v0 v1 v2 v3 v4 v5 v6 v7 v8 v9 v10 : Int) (w : World) :
    (binOp .eql 45 (.agg #[.int .i64 v0, .int .i64 v1, .int .i64 v2, .int .i64 v3, .int .i64 v4, .int .i64 v5, .int .i64 v6, .int .i64 v7, .int .i64 v8, .int .i64 v9, .int .i64 v10])
      (.agg #[.int .i64 v0, .int .i64 v1, .int .i64 v2, .int .i64 v3, .int .i64 v4, .int .i64 v5, .int .i64 v6, .int .i64 v7, .int .i64 v8, .int .i64 v9, .int .i64 v10])).run Tryd.prog w = .ok (.bool true) w := by
  have hf : (Tryd.prog.fieldsOf 45).toList.map (fun f => (f.name != "_", f.type, f.offset)) = [(true, 43, 0), (true, 42, 4), (true, 43, 6), (true, 3, 10)] := by kernel_rfl
  have p0 : (part 43 #[.int .i64 v0, .int .i64 v1, .int .i64 v2, .int .i64 v3, .int .i64 v4, .int .i64 v5, .int .i64 v6, .int .i64 v7, .int .i64 v8, .int .i64 v9, .int .i64 v10] 0).run Tryd.prog w = .ok (.agg #[.int .i64 v0, .int .i64 v1, .int .i64 v2, .int .i64 v3]) w := by kernel_rfl
  have p1 : (part 42 #[.int .i64 v0, .int .i64 v1, .int .i64 v2, .int .i64 v3, .int .i64 v4, .int .i64 v5, .int .i64 v6, .int .i64 v7, .int .i64 v8, .int .i64 v9, .int .i64 v10] 4).run Tryd.prog w = .ok (.agg #[.int .i64 v4, .int .i64 v5]) w := by kernel_rfl
  have p2 : (part 43 #[.int .i64 v0, .int .i64 v1, .int .i64 v2, .int .i64 v3, .int .i64 v4, .int .i64 v5, .int .i64 v6, .int .i64 v7, .int .i64 v8, .int .i64 v9, .int .i64 v10] 6).run Tryd.prog w = .ok (.agg #[.int .i64 v6, .int .i64 v7, .int .i64 v8, .int .i64 v9]) w := by kernel_rfl
  have p3 : (part 3 #[.int .i64 v0, .int .i64 v1, .int .i64 v2, .int .i64 v3, .int .i64 v4, .int .i64 v5, .int .i64 v6, .int .i64 v7, .int .i64 v8, .int .i64 v9, .int .i64 v10] 10).run Tryd.prog w = .ok (.int .i64 v10) w := by kernel_rfl
  rw [run_eql_struct, run_equalIn_struct w 9999 _ _ _ (by kernel_rfl) (by kernel_rfl)]
  generalize (Tryd.prog.fieldsOf 45).toList = fs at *
  match fs, (show fs.length = 4 by simpa using congrArg List.length hf), hf with
  | [f0, f1, f2, f3], _, hf =>
    simp at hf
    obtain ⟨⟨n0, t0, o0⟩, ⟨n1, t1, o1⟩, ⟨n2, t2, o2⟩, ⟨n3, t3, o3⟩⟩ := hf
    have q0 := eq_two 9996 v0 v1 v2 v3 w
    have q1 := eq_region 9997 v4 v5 w
    have q2 := eq_two 9996 v6 v7 v8 v9 w
    have q3 := run_equalIn_int (P := Tryd.prog) w 9998 3 .i64 .i64 v10 v10 Tryd.underlying3
    simp [Op.eqFields, n0, n1, n2, n3, t0, t1, t2, t3, o0, o1, o2, o3, p0, p1, p2, p3, q0, q1, q2, q3]

end Go.Proofs.YtpnodocjpedcmaaDoor.Prt

namespace Go.Proofs.YtpnodocjpedcmaaDoor.Prt
open Go.ChangeShapes Go.WideShapes Go.ChangeAt Go.RowKit Go.Proofs.YtpnodocjpedcmaaDoor.Kit

theorem count_nil (w : World) : Calls Tryd.prog 58 #[.pointer none] w fun e w' => e = .returned (.int .i64 0) ∧ w' = w := by
  go_enter Tryd.func58, Tryd.ntmps58
  go_wp2
  go_ret
  exact ⟨rfl, rfl⟩

theorem size_nil (w : World) : Calls Tryd.prog 97 #[.pointer none] w fun e w' => e = .returned (.int .i64 0) ∧ w' = w := by
  go_enter Tryd.func97, Tryd.ntmps97
  go_wp2
  go_ret
  exact ⟨rfl, rfl⟩

theorem read_nil (at_ n : Int) (w : World) : Calls Tryd.prog 49 #[.pointer none, .int .i64 at_, .int .i64 n] w fun e w' => e = .returned (.tuple #[.slice none 0 0, .int .i64 1]) ∧ w' = w := by
  go_enter Tryd.func49, Tryd.ntmps49
  go_wp2
  go_ret2
  exact ⟨rfl, rfl⟩

theorem write_nil (at_ : Int) (v : Value) (w : World) : Calls Tryd.prog 54 #[.pointer none, .int .i64 at_, v] w fun e w' => e = .returned (.int .i64 1) ∧ w' = w := by
  go_enter Tryd.func54, Tryd.ntmps54
  go_wp2
  go_ret
  exact ⟨rfl, rfl⟩

set_option maxRecDepth 100000 in
set_option maxHeartbeats 1600000 in
theorem open_nil (F N : Int) (w : World) : Calls Tryd.prog 48 #[.pointer none, .agg #[.int .i64 F, .int .i64 N]] w (Gives (.tuple #[.pointer none, .int .i64 1]) w) := by
  have hb0 : Below w.heap.size w (w.alloc (.cells #[.int .i64 F, .int .i64 N] 42)) := (Below.refl _ _).alloc (Nat.le_refl _) _
  have blk := Block.new w 42 #[.int .i64 F, .int .i64 N]
  have c0 : (w.alloc (.cells #[.int .i64 F, .int .i64 N] 42)).cell? ⟨w.heap.size, 0, none⟩ = some (.int .i64 F) := blk.cell 0
  have c1 : (w.alloc (.cells #[.int .i64 F, .int .i64 N] 42)).cell? ⟨w.heap.size, 1, none⟩ = some (.int .i64 N) := blk.cell 1
  clear blk
  by_cases h0 : F < 0
  · have h0 : decide (F < 0) = true := decide_eq_true h0
    go_enter Tryd.func48, Tryd.ntmps48
    go_wp2_with fail
    go_quiet (fail)
    go_wp2_with fail
    go_ret2
    exact ⟨rfl, below_draws hb0 _⟩
  by_cases h1 : N < 1
  · have h0 : decide (F < 0) = false := decide_eq_false h0
    have h1 : decide (N < 1) = true := decide_eq_true h1
    go_enter Tryd.func48, Tryd.ntmps48
    go_wp2_with fail
    go_quiet (fail)
    go_wp2_with fail
    go_ret2
    exact ⟨rfl, below_draws hb0 _⟩
  have h2 : decide (0 < N) = true := decide_eq_true (by omega)
  have h0 : decide (F < 0) = false := decide_eq_false h0
  have h1 : decide (N < 1) = false := decide_eq_false h1
  have G := Lib.hid count_nil
  go_enter Tryd.func48, Tryd.ntmps48
  go_wp2_with fail
  go_quiet ((go_at_call 58; exact Calls.quiet_of_same (G.out _)))
  go_wp2_with fail
  go_ret2
  exact ⟨rfl, below_draws hb0 _⟩
end Go.Proofs.YtpnodocjpedcmaaDoor.Prt

namespace Go.Proofs.YtpnodocjpedcmaaDoor.Kit
open Go.ChangeShapes Go.WideShapes Go.ChangeAt Go.RowKit

/-- The array's value. -/
def arrV (k : IntKind) (xs : List Int) : Value := .agg (xs.map (Value.int k)).toArray

/-- Block g is just the array xs, of elements of type t. -/
def Arr (w : World) (g : Nat) (t : TypeId) (k : IntKind) (xs : List Int) : Prop := Block w g t (xs.map (Value.int k)).toArray

section
variable {w w' : World} {B g : Nat} {t e : TypeId} {k : IntKind} {xs ys : List Int}

theorem Arr.new (w : World) (t : TypeId) (k : IntKind) (xs : List Int) : Arr (w.alloc (.cells (xs.map (Value.int k)).toArray t)) w.heap.size t k xs := Block.new w t _
theorem Arr.lt (h : Arr w g t k xs) : g < w.heap.size := Block.lt h
theorem Arr.cell (h : Arr w g t k xs) {i : Nat} (hi : i < xs.length) : w.cell? ⟨g, i, none⟩ = some (.int k (xs[i]?.getD 0)) := by
  rw [Block.cell h i]
  simp [List.getElem?_eq_getElem hi]
theorem Arr.frozen (h : Arr w g t k xs) (i : Nat) : w.frozen? ⟨g, i, none⟩ = false := Block.frozen h i
theorem Arr.below (h : Arr w g t k xs) (hb : Below B w w') (hg : g < B) : Arr w' g t k xs := Block.below h hb hg
theorem Arr.grown {row : Option Nat} (h : Arr w g t k xs) (hb : w.grownBy w' row) (hg : row ≠ some g) : Arr w' g t k xs := Block.grown h hb hg
theorem Arr.alloc (h : Arr w g t k xs) (o : Obj) : Arr (w.alloc o) g t k xs := Block.alloc h o
theorem Arr.drewN (h : Arr w g t k xs) (n : Nat) : Arr (w.drewN n) g t k xs := h
theorem Arr.set_ (h : Arr w g t k xs) (i : Nat) (z : Int) : Arr (w.setCell ⟨g, i, none⟩ (.int k z)) g t k (xs.set i z) := by
  have := Block.set_ h i (.int k z)
  unfold Arr
  rwa [List.setIfInBounds_toArray, ← List.map_set] at this
theorem Arr.far (h : Arr w g t k xs) {p : Addr} (hp : g ≠ p.block) (u : Value) : Arr (w.setCell p u) g t k xs := Block.far h hp u

/-- The array as a slice, from a on, n cells of it. -/
theorem Arr.holds (h : Arr w g t k xs) (a n : Nat) : Holds w w.heap.size k (some ⟨g, a, none⟩) ((xs.drop a).take n) := by
  intro hx
  refine ⟨g, a, rfl, h.lt, fun j hj => ?_⟩
  simp only [List.length_take, List.length_drop] at hj
  rw [h.cell (i := a + j) (by omega)]
  simp [List.getD, show j < n by omega]

theorem Arr.holds_all (h : Arr w g t k xs) : Holds w w.heap.size k (some ⟨g, 0, none⟩) xs := by
  have := h.holds 0 xs.length
  rwa [List.drop_zero, List.take_of_length_le (Nat.le_refl _)] at this

theorem Arr.range (h : Arr w g t k xs) : w.rangeAt g 0 (xs.map (Value.int k)) := by
  intro j v hj
  obtain ⟨hl, rfl⟩ := get_ints hj
  rw [Nat.zero_add, h.cell hl]
  simp [List.getD]

theorem Arr.there (h : Arr w g t k xs) {n : Nat} (hn : n ≤ xs.length) : w.there g 0 n := fun j hj => by
  rw [Nat.zero_add, h.cell (i := j) (by omega)]
  exact ⟨rfl, h.frozen j⟩

theorem setCells_grown (g : Nat) : ∀ (vs : List Value) (o : Nat) (w : World), w.grownBy (w.setCells g o vs) (some g)
  | [], o, w => World.grownBy.refl w _
  | v :: r, o, w => by
    have h1 : w.grownBy (w.setCell ⟨g, o, none⟩ v) (some g) := ⟨rfl, rfl, rfl, by simp, fun k _ hk => heap_setCell_other w ⟨g, o, none⟩ k v (fun e => hk (by rw [e]))⟩
    have h2 := setCells_grown g r (o + 1) (w.setCell ⟨g, o, none⟩ v)
    exact ⟨h2.os.trans h1.os, h2.tape.trans h1.tape, h2.output.trans h1.output, Nat.le_trans h1.size h2.size, fun j hj hne => (h2.block j (Nat.lt_of_lt_of_le hj h1.size) hne).trans (h1.block j hj hne)⟩

theorem setCells_block : ∀ (vs : List Value) (o : Nat) (w : World) (cs : Array Value), Block w g t cs → o + vs.length ≤ cs.size →
    Block (w.setCells g o vs) g t (cs.toList.take o ++ (vs ++ cs.toList.drop (o + vs.length))).toArray
  | [], o, w, cs, h, _ => by
    have e : (cs.toList.take o ++ ([] ++ cs.toList.drop (o + 0))).toArray = cs := by simp
    show Block w g t (cs.toList.take o ++ ([] ++ cs.toList.drop (o + 0))).toArray
    rw [e]; exact h
  | v :: r, o, w, cs, h, hl => by
    simp only [List.length_cons] at hl
    have h1 := setCells_block r (o + 1) (w.setCell ⟨g, o, none⟩ v) _ (h.set_ o v) (by simp; omega)
    have e : ((cs.setIfInBounds o v).toList.take (o + 1) ++ (r ++ (cs.setIfInBounds o v).toList.drop (o + 1 + r.length))) = cs.toList.take o ++ (v :: r ++ cs.toList.drop (o + (v :: r).length)) := by
      rw [Array.toList_setIfInBounds, List.take_add_one]
      have hd : (cs.toList.set o v).drop (o + 1 + r.length) = cs.toList.drop (o + (v :: r).length) := by
        rw [List.drop_set, if_pos (by omega), List.length_cons]; congr 1; omega
      rw [hd]
      have ht : (cs.toList.set o v).take o = cs.toList.take o := by
        apply List.ext_getElem?
        intro j
        rw [List.getElem?_take, List.getElem?_take]
        split
        · rw [List.getElem?_set_ne (by omega)]
        · rfl
      rw [ht]
      simp [List.getElem?_set, show o < cs.size by omega]
    rw [e] at h1
    exact h1
end

section
variable {P : Program} {w : World}

/-- A whole array is loaded. -/
theorem wpList_load_arr {ops : Array Oper} {rest : List Oper} {o : Oper} {a : Act} {Q : Exit → Act → World → Prop} (hgd : o.guard = none) (ty : TypeId) (x : Operand) (ho : o.op = .load ty x)
    {g : Nat} {t : TypeId} {k : IntKind} {xs : List Int} (h : Arr w g t k xs) (hx : a.eval x = .pointer (some ⟨g, 0, none⟩)) {d : TypeDesc} (hu : P.underlying ty = some d) (hd : d.isRow = true) (hi : (P.info? ty).map (·.size) = some xs.length)
    (hK : wpList P ops Q rest (a.put o.dst (arrV k xs)) w) : wpList P ops Q (o :: rest) a w :=
  wpList_load_mid hgd ty x ho g 0 hx (xs.map (Value.int k)) d h.range hu hd (by simpa using hi) hK

/-- A whole array is stored over another. -/
theorem wpList_store_arr {ops : Array Oper} {rest : List Oper} {o : Oper} {a : Act} {Q : Exit → Act → World → Prop} (hgd : o.guard = none) (ty : TypeId) (x y : Operand) (ho : o.op = .store ty x y)
    {g : Nat} {t : TypeId} {k : IntKind} {xs ys : List Int} (h : Arr w g t k xs) (hx : a.eval x = .pointer (some ⟨g, 0, none⟩)) (hy : a.eval y = arrV k ys) (hl : ys.length = xs.length) (hi : (P.info? ty).map (·.size) = some ys.length)
    (hK : ∀ w', Arr w' g t k ys → w.grownBy w' (some g) → wpList P ops Q rest (a.put o.dst undef) w') : wpList P ops Q (o :: rest) a w := by
  refine wpList_store_mid hgd ty x y ho g 0 (ys.map (Value.int k)).toArray hx hy (by simpa using h.there (by omega)) (by simpa using hi) (all_oneCell_toArray (ints_one k ys)) ?_
  refine hK _ ?_ (setCells_grown g _ 0 w)
  have := setCells_block (ys.map (Value.int k)) 0 w _ h (by simp; omega)
  unfold Arr
  have e : ((xs.map (Value.int k)).toArray.toList.take 0 ++ (ys.map (Value.int k) ++ (xs.map (Value.int k)).toArray.toList.drop (0 + (ys.map (Value.int k)).length))).toArray = (ys.map (Value.int k)).toArray := by
    simp [hl]
  rw [e] at this
  simpa using this

theorem run_eqItems_ints (d : Nat) {e : TypeId} {k k' : IntKind} (he : P.plainKey e = true) (hu : P.underlying e = some (.int k')) (hc : P.cellsOf e = 1) (xs ys : List Int) :
    ∀ is : List Nat, (∀ i ∈ is, i < xs.length ∧ i < ys.length) → (Op.eqItems (d + 1) e (P.cellsOf e) (xs.map (Value.int k)).toArray (ys.map (Value.int k)).toArray is).run P w = .ok (decide (∀ i ∈ is, xs[i]?.getD 0 = ys[i]?.getD 0)) w
  | [], _ => by simp [Op.eqItems]
  | i :: is, h => by
    obtain ⟨h1, h2⟩ := h i (by simp)
    have ih := run_eqItems_ints (k := k) d he hu hc xs ys is (fun j hj => h j (by simp [hj]))
    have p1 := run_part_plain (P := P) w he (xs := (xs.map (Value.int k)).toArray) (off := i * P.cellsOf e) (v := .int k (xs[i]?.getD 0)) (by rw [hc]; simp [h1])
    have p2 := run_part_plain (P := P) w he (xs := (ys.map (Value.int k)).toArray) (off := i * P.cellsOf e) (v := .int k (ys[i]?.getD 0)) (by rw [hc]; simp [h2])
    have p3 : (Op.equalIn (d + 1) e (.int k (xs[i]?.getD 0)) (.int k (ys[i]?.getD 0))).run P w = .ok (xs[i]?.getD 0 == ys[i]?.getD 0) w := by
      simp [Op.equalIn, run_underlying hu]
    simp only [Op.eqItems, Sem.run_bind, p1, p2, p3, Result.andThen_ok]
    by_cases hq : xs[i]?.getD 0 = ys[i]?.getD 0
    · simp only [hq, beq_self_eq_true, Bool.not_true, Bool.false_eq_true, if_false]
      rw [ih]
      congr 1
      simp [hq]
    · have hq' : (xs[i]?.getD 0 == ys[i]?.getD 0) = false := by simpa using hq
      simp only [hq', Bool.not_false, if_true, Sem.run_pure]
      congr 1
      simp [hq]

/-- == of two arrays of integers. -/
theorem run_eql_arr {t e : TypeId} {k k' : IntKind} {i : TypeInfo} (xs ys : List Int) (ht : P.underlying t = some (.array xs.length e)) (hi : P.info? e = some i) (he : P.plainKey e = true) (hu : P.underlying e = some (.int k')) (hc : P.cellsOf e = 1) (hl : xs.length = ys.length) :
    (binOp .eql t (arrV k xs) (arrV k ys)).run P w = .ok (.bool (decide (xs = ys))) w := by
  have h1 := run_equalIn_array (P := P) (w := w) 9999 (xs.map (Value.int k)).toArray (ys.map (Value.int k)).toArray ht hi
  have h2 := run_eqItems_ints (P := P) (w := w) 9998 (k := k) he hu hc xs ys (List.range xs.length) (fun j hj => by have := List.mem_range.1 hj; omega)
  have e1 : decide (∀ j ∈ List.range xs.length, xs[j]?.getD 0 = ys[j]?.getD 0) = decide (xs = ys) := by
    rw [decide_eq_decide]
    constructor
    · intro h
      apply List.ext_getElem hl
      intro j hj hj'
      have := h j (List.mem_range.2 hj)
      simpa [hj, hj'] using this
    · rintro rfl j _; rfl
  rw [e1] at h2
  rw [h2] at h1
  unfold arrV
  simp only [binOp]
  simp [Op.equal, Op.maxDepth, h1]
end

section
variable {H : Type} {enc : TypeId × Value → H} {P : Program} {w : World} {base b0 : Nat} {sp : Nat → Bool} {held : Bool}

/-- An array of integers that came in by value. -/
theorem open_array {r : Reach} {t e : TypeId} {n : Nat} {k : IntKind} (ht : P.underlying t = some (.array n e)) (he : P.underlying e = some (.int k)) (hc : P.cellsOf e = 1) (hct : P.cellsOf t = n)
    {v : Value} {d : DataW H} {ps : List MemPlace} (hv : Value.okWide P w r b0 t v) (h : DataW.Trod enc P w base sp held t v d ps) :
    ∃ xs : List Int, xs.length = n ∧ v = arrV k xs ∧ ∀ z ∈ xs, (Lit.int k z).wf = true := by
  simp only [Value.okWide, ht] at hv
  obtain ⟨cs, rfl, hsz, _⟩ := hv
  obtain ⟨fuel, hf⟩ := h
  obtain ⟨ys, m, _, _, hl, hyl, hg⟩ := DataW.trod_array ht hf
  simp only [Value.cells] at hl hg
  have each : ∀ i, i < n → ∃ q, cs.toList[i]? = some (.int k q) ∧ (Lit.int k q).wf = true := by
    intro i hi
    have h1 := hg i hi
    rw [hc, Nat.mul_one] at h1
    have hx : ys[i]? = some (ys[i]'(by omega)) := List.getElem?_eq_getElem (by omega)
    rw [hx] at h1
    obtain ⟨q, hq, _, hw⟩ := DataW.trod_int he h1
    refine ⟨q, ?_, hw⟩
    rw [List.drop_eq_getElem_cons (by rw [hl, hct]; exact hi)] at hq
    simp only [List.take_succ_cons, List.take_zero, List.cons.injEq, and_true] at hq
    rw [List.getElem?_eq_getElem (by rw [hl, hct]; exact hi), hq]
  have hlen : cs.toList.length = n := by rw [hl, hct]
  refine ⟨cs.toList.map (fun v => match v with | .int _ q => q | _ => 0), by rw [List.length_map, hlen], ?_, fun z hz => ?_⟩
  · unfold arrV
    congr 1
    apply Array.toList_inj.1
    apply List.ext_getElem?
    intro i
    by_cases hi : i < n
    · obtain ⟨q, hq, _⟩ := each i hi
      simp only [List.map_map, List.getElem?_map, hq]
      rfl
    · rw [List.getElem?_eq_none (by omega), List.getElem?_eq_none (by simp; have := hlen; simp at this; omega)]
  · obtain ⟨v, hv, rfl⟩ := List.mem_map.1 hz
    obtain ⟨i, hi, rfl⟩ := List.mem_iff_getElem.1 hv
    obtain ⟨q, hq, hw⟩ := each i (by omega)
    rw [List.getElem?_eq_getElem hi] at hq
    injection hq with hq
    rw [hq]
    exact hw
end
end Go.Proofs.YtpnodocjpedcmaaDoor.Kit

namespace Go.Proofs.YtpnodocjpedcmaaDoor.Kit
open Go.ChangeShapes Go.WideShapes Go.ChangeAt Go.RowKit

theorem step_store_arr {P : Program} {ops : Array Oper} {o : Oper} {a : Act} {w : World} {K : Act → World → Prop} {Q : Exit → Act → World → Prop} {E : Prop}
    (hgd : o.guard = none) (ty : TypeId) (x y : Operand) (ho : o.op = .store ty x y)
    {g : Nat} {t : TypeId} {k : IntKind} {xs ys : List Int} (h : Arr w g t k xs) (hx : a.eval x = .pointer (some ⟨g, 0, none⟩)) (hy : a.eval y = arrV k ys) (hl : ys.length = xs.length) (hi : (P.info? ty).map (·.size) = some ys.length)
    (hK : ∀ w', Arr w' g t k ys → w.grownBy w' (some g) → K (a.put o.dst undef) w') : if Region.wanted o (yielded ops a.tmps) = true then Oper.wp P o a w K Q else E := by
  have hw : Region.wanted o (yielded ops a.tmps) = true := by simp [Region.wanted, hgd]
  rw [if_pos hw]
  refine wp_store_mid ty x y ho g 0 (ys.map (Value.int k)).toArray hx hy (by simpa using h.there (by omega)) (by simpa using hi) (all_oneCell_toArray (ints_one k ys)) ?_
  refine hK _ ?_ (setCells_grown g _ 0 w)
  have := setCells_block (ys.map (Value.int k)) 0 w _ h (by simp; omega)
  unfold Arr
  have e : ((xs.map (Value.int k)).toArray.toList.take 0 ++ (ys.map (Value.int k) ++ (xs.map (Value.int k)).toArray.toList.drop (0 + (ys.map (Value.int k)).length))).toArray = (ys.map (Value.int k)).toArray := by
    simp [hl]
  rw [e] at this
  simpa using this

/-- A row that lies in memory is loaded as a whole. -/
theorem step_load_row {P : Program} {ops : Array Oper} {o : Oper} {a : Act} {w : World} {K : Act → World → Prop} {Q : Exit → Act → World → Prop} {E : Prop}
    (hw : Region.wanted o (yielded ops a.tmps) = true) (ty : TypeId) (x : Operand) (ho : o.op = .load ty x)
    (b f : Nat) (cs : List Value) (hx : a.eval x = .pointer (some ⟨b, f, none⟩)) (hc : w.rangeAt b f cs) {d : TypeDesc} (hu : P.underlying ty = some d) (hd : d.isRow = true) (hi : (P.info? ty).map (·.size) = some cs.length)
    (hK : K (a.put o.dst (.agg cs.toArray)) w) : if Region.wanted o (yielded ops a.tmps) = true then Oper.wp P o a w K Q else E := by
  rw [if_pos hw]
  exact wp_load_mid ty x ho b f hx cs d hc hu hd hi hK
end Go.Proofs.YtpnodocjpedcmaaDoor.Kit

namespace Go.Proofs.YtpnodocjpedcmaaDoor.Kit
open Go.ChangeShapes Go.WideShapes Go.ChangeAt Go.RowKit

/-- The fields are integers of these kinds, a cell each, in their order. -/
def intFields (P : Program) (fs : Array Field) (ks : List IntKind) : Bool :=
  fs.size == ks.length && (List.range fs.size).all fun i => match fs[i]?, ks[i]? with
    | some f, some k => f.offset == i && P.cellsOf f.type == 1 && (match P.underlying f.type with | some (.int k') => decide (k' = k) | _ => false)
    | _, _ => false

theorem intFields_of {P : Program} {fs : Array Field} {ks : List IntKind} (h : intFields P fs ks = true) : fs.size = ks.length ∧
    ∀ i, i < ks.length → ∃ f k, fs[i]? = some f ∧ ks[i]? = some k ∧ f.offset = i ∧ P.cellsOf f.type = 1 ∧ P.underlying f.type = some (.int k) := by
  unfold intFields at h
  simp only [Bool.and_eq_true, beq_iff_eq, List.all_eq_true, List.mem_range] at h
  refine ⟨h.1, fun i hi => ?_⟩
  have h2 := h.2 i (by omega)
  cases hf : fs[i]? with
  | none => rw [hf] at h2; simp at h2
  | some f =>
    cases hk : ks[i]? with
    | none => rw [hf, hk] at h2; simp at h2
    | some k =>
      rw [hf, hk] at h2
      simp only [Bool.and_eq_true, beq_iff_eq] at h2
      refine ⟨f, k, rfl, rfl, h2.1.1, h2.1.2, ?_⟩
      have h3 := h2.2
      split at h3
      · rename_i k' hu
        rw [hu, of_decide_eq_true h3]
      · cases h3

def numOfV : Value → Int
  | .int _ n => n
  | _ => 0

section
variable {H : Type} {enc : TypeId × Value → H} {P : Program} {w : World} {base b0 : Nat} {sp : Nat → Bool} {held : Bool}

theorem struct_row {e : TypeId} {fs : Array Field} {ks : List IntKind} (he : P.underlying e = some (.struct fs)) (hf : intFields P fs ks = true) (hc : P.cellsOf e = ks.length)
    {n : Nat} {cs : List Value} {y : DataW H × List MemPlace} (h : DataW.trod enc P w base sp held n e cs = some y) :
    ∃ row : List Int, row.length = ks.length ∧ cs = List.zipWith Value.int ks row ∧ ∀ (j : Nat) (k : IntKind), ks[j]? = some k → (Lit.int k (row[j]?.getD 0)).wf = true := by
  obtain ⟨xs, m, _, _, hl, hxl, hg⟩ := DataW.trod_struct he h
  obtain ⟨hsz, hi⟩ := intFields_of hf
  have each : ∀ i (hi' : i < ks.length), ∃ q, cs[i]? = some (.int ks[i] q) ∧ (Lit.int ks[i] q).wf = true := by
    intro i hi'
    obtain ⟨f, k, h1, h2, h3, h4, h5⟩ := hi i hi'
    have hk : ks[i] = k := by rw [List.getElem?_eq_getElem hi'] at h2; exact Option.some.inj h2
    have h6 := hg i f h1
    rw [h3, h4] at h6
    have hx : xs[i]? = some (xs[i]'(by omega)) := List.getElem?_eq_getElem (by omega)
    rw [hx] at h6
    obtain ⟨q, hq, _, hw⟩ := DataW.trod_int h5 h6
    refine ⟨q, ?_, by rw [hk]; exact hw⟩
    rw [hk]
    rw [List.drop_eq_getElem_cons (by omega)] at hq
    simp only [List.take_succ_cons, List.take_zero, List.cons.injEq, and_true] at hq
    rw [List.getElem?_eq_getElem (by omega), hq]
  refine ⟨cs.map numOfV, by simp; omega, ?_, fun j k hk => ?_⟩
  · apply List.ext_getElem?
    intro i
    by_cases hi' : i < ks.length
    · obtain ⟨q, hq, _⟩ := each i hi'
      rw [List.getElem?_zipWith, List.getElem?_map, hq, List.getElem?_eq_getElem hi']
      rfl
    · rw [List.getElem?_eq_none (by omega), List.getElem?_zipWith, List.getElem?_eq_none (by omega : ks.length ≤ i)]
  · have hj : j < ks.length := by
      rcases Nat.lt_or_ge j ks.length with h' | h'
      · exact h'
      · rw [List.getElem?_eq_none h'] at hk; cases hk
    obtain ⟨q, hq, hw⟩ := each j hj
    rw [List.getElem?_eq_getElem hj] at hk
    injection hk with hk
    rw [List.getElem?_map, hq, ← hk]
    exact hw

/-- A struct of integers by value. -/
theorem open_struct {r : Reach} {t : TypeId} {fs : Array Field} {ks : List IntKind} (ht : P.underlying t = some (.struct fs)) (hf : intFields P fs ks = true) (hc : P.cellsOf t = ks.length)
    {v : Value} {d : DataW H} {ps : List MemPlace} (hv : Value.okWide P w r b0 t v) (h : DataW.Trod enc P w base sp held t v d ps) :
    ∃ row : List Int, row.length = ks.length ∧ v = .agg (List.zipWith Value.int ks row).toArray ∧ ∀ (j : Nat) (k : IntKind), ks[j]? = some k → (Lit.int k (row[j]?.getD 0)).wf = true := by
  obtain ⟨cs, rfl, hsz⟩ := okWide_struct ht hv
  obtain ⟨fuel, hfu⟩ := h
  obtain ⟨row, h1, h2, h3⟩ := struct_row ht hf hc hfu
  exact ⟨row, h1, by rw [← h2]; simp [Value.cells], h3⟩

/-- The slice at A holds rows of integers of these kinds; its memory lies below block B. -/
def HoldsR (w : World) (B : Nat) (ks : List IntKind) (A : Option Addr) (rows : List (List Int)) : Prop :=
  0 < rows.length → ∃ b off : Nat, A = some ⟨b, off, none⟩ ∧ b < B ∧ ∀ (i : Nat) (row : List Int), rows[i]? = some row → ∀ (j : Nat) (k : IntKind), ks[j]? = some k → w.cell? ⟨b, off + i * ks.length + j, none⟩ = some (.int k (row[j]?.getD 0))

/-- A slice of structs of integers that came in. -/
theorem open_rows {t e : TypeId} {fs : Array Field} {ks : List IntKind} (ht : P.underlying t = some (.slice e)) (he : P.underlying e = some (.struct fs)) (hf : intFields P fs ks = true) (hc : P.cellsOf e = ks.length) (hks : 0 < ks.length)
    {v : Value} {d : DataW H} {ps : List MemPlace} (hval : Value.okWide P w .any b0 t v) (h : DataW.Trod enc P w 0 (fun _ => true) true t v d ps) (hlt : ∀ x ∈ ps, x.block < w.heap.size) :
    ∃ (A : Option Addr) (cap : Nat) (rows : List (List Int)), v = .slice A rows.length cap ∧ rows.length ≤ cap ∧ cap ≤ maxLen ∧ HoldsR w w.heap.size ks A rows ∧
      ∀ (i : Nat) (row : List Int), rows[i]? = some row → row.length = ks.length ∧ ∀ (j : Nat) (k : IntKind), ks[j]? = some k → (Lit.int k (row[j]?.getD 0)).wf = true := by
  obtain ⟨a0, len, cap, rfl⟩ := okWide_slice ht hval
  obtain ⟨fuel, hfu⟩ := h
  rcases DataW.trod_slice ht hfu with ⟨hcs, _⟩ | ⟨a, len', cap', elems, rest, n, _, hcs, hx, _, hl, hm, hlen, hel, _, _⟩
  · simp [Value.cells] at hcs
    obtain ⟨rfl, rfl, rfl⟩ := hcs
    exact ⟨none, 0, [], rfl, Nat.le_refl _, Nat.zero_le _, fun h => absurd h (by simp), fun i row hi => by simp at hi⟩
  · simp [Value.cells] at hcs
    obtain ⟨rfl, rfl, rfl⟩ := hcs
    have each : ∀ i, i < len → ∃ row : List Int, row.length = ks.length ∧ (∀ (j : Nat) (k : IntKind), ks[j]? = some k → w.cell? (a.add (i * ks.length + j)) = some (.int k (row[j]?.getD 0)) ∧ (Lit.int k (row[j]?.getD 0)).wf = true) := by
      intro i hi
      have h1 := hel i hi
      have hx' : elems[i]? = some (elems[i]'(by omega)) := List.getElem?_eq_getElem (by omega)
      rw [hx'] at h1
      obtain ⟨cs, h2, h3⟩ := Option.bind_eq_some_iff.1 h1
      obtain ⟨_, h5, h6⟩ := World.cells?_some h2
      obtain ⟨row, r1, r2, r3⟩ := struct_row he hf hc h3
      refine ⟨row, r1, fun j k hk => ⟨?_, r3 j k hk⟩⟩
      have hj : j < ks.length := by
        rcases Nat.lt_or_ge j ks.length with h' | h'
        · exact h'
        · rw [List.getElem?_eq_none h'] at hk; cases hk
      have h7 := h6 j (by omega)
      rw [hc] at h7
      have hadd : (a.add (i * ks.length)).add j = a.add (i * ks.length + j) := by
        unfold Addr.add
        by_cases h1 : i * ks.length = 0 <;> by_cases h2 : j = 0 <;> simp [h1, h2, Nat.add_assoc]
      rw [hadd] at h7
      rw [h7, r2, List.getElem?_zipWith, hk, List.getElem?_eq_getElem (by omega : j < row.length)]
      rfl
    have all : ∃ rows : List (List Int), rows.length = len ∧ ∀ (i : Nat) (row : List Int), rows[i]? = some row → row.length = ks.length ∧ (∀ (j : Nat) (k : IntKind), ks[j]? = some k → w.cell? (a.add (i * ks.length + j)) = some (.int k (row[j]?.getD 0)) ∧ (Lit.int k (row[j]?.getD 0)).wf = true) := by
      have build : ∀ m, m ≤ len → ∃ rows : List (List Int), rows.length = m ∧ ∀ (i : Nat) (row : List Int), rows[i]? = some row → row.length = ks.length ∧ (∀ (j : Nat) (k : IntKind), ks[j]? = some k → w.cell? (a.add (i * ks.length + j)) = some (.int k (row[j]?.getD 0)) ∧ (Lit.int k (row[j]?.getD 0)).wf = true) := by
        intro m
        induction m with
        | zero => exact fun _ => ⟨[], rfl, fun i row hi => by simp at hi⟩
        | succ m ih =>
          intro hm'
          obtain ⟨rows, q1, q2⟩ := ih (by omega)
          obtain ⟨row, r1, r2⟩ := each m (by omega)
          refine ⟨rows ++ [row], by simp [q1], fun i row' hi => ?_⟩
          by_cases hi' : i < m
          · rw [List.getElem?_append_left (by omega)] at hi
            exact q2 i row' hi
          · have him : i = m := by
              rcases Nat.lt_or_ge i (rows ++ [row]).length with h' | h'
              · simp at h'; omega
              · rw [List.getElem?_eq_none h'] at hi; cases hi
            subst him
            rw [List.getElem?_append_right (by omega), q1] at hi
            simp at hi
            subst hi
            exact ⟨r1, r2⟩
      exact build len (Nat.le_refl _)
    obtain ⟨rows, q1, q2⟩ := all
    refine ⟨some a, cap, rows, by rw [q1], by omega, hm, fun hx0 => ?_, fun i row hi => ⟨(q2 i row hi).1, fun j k hk => ((q2 i row hi).2 j k hk).2⟩⟩
    obtain ⟨b, off, spot⟩ := a
    have hk0 : ks[0]? = some ks[0] := List.getElem?_eq_getElem hks
    have hr0 : rows[0]? = some (rows[0]'hx0) := List.getElem?_eq_getElem hx0
    have hspot : spot = none := by simpa [Addr.add] using World.cell?_spot ((q2 0 _ hr0).2 0 _ hk0).1
    subst hspot
    simp only [Prod.mk.injEq] at hx
    have hpos : 0 < (elems.length + rest.length) * P.cellsOf e := Nat.mul_pos (by omega) (by omega)
    refine ⟨b, off, rfl, hlt (.cell b (off + 0)) (by rw [hx.2]; exact List.mem_append_left _ (MemPlace.mem_row.2 ⟨0, hpos, by simp⟩)), fun i row hi j k hk => ?_⟩
    have := ((q2 i row hi).2 j k hk).1
    rw [add_plain] at this
    rw [Nat.add_assoc]
    exact this
end
end Go.Proofs.YtpnodocjpedcmaaDoor.Kit

namespace Go.Proofs.YtpnodocjpedcmaaDoor.Kit
open Go.ChangeShapes Go.WideShapes Go.ChangeAt Go.RowKit

/-- Field i is an integer of kind k in cell o. -/
def isInt (P : Program) (fs : Array Field) (i o : Nat) (k : IntKind) : Bool := match fs[i]? with
  | some f => f.offset == o && P.cellsOf f.type == 1 && (match P.underlying f.type with | some (.int k') => decide (k' = k) | _ => false)
  | none => false

/-- Field i is a slice of bytes in cell o. -/
def isBytes (P : Program) (fs : Array Field) (i o : Nat) : Bool := match fs[i]? with
  | some f => f.offset == o && P.cellsOf f.type == 1 && (match P.underlying f.type with
    | some (.slice e) => P.cellsOf e == 1 && (match P.underlying e with | some (.int k') => decide (k' = .u8) | _ => false)
    | _ => false)
  | none => false

theorem isInt_of {P : Program} {fs : Array Field} {i o : Nat} {k : IntKind} (h : isInt P fs i o k = true) : ∃ f, fs[i]? = some f ∧ f.offset = o ∧ P.cellsOf f.type = 1 ∧ P.underlying f.type = some (.int k) := by
  unfold isInt at h
  cases hf : fs[i]? with
  | none => rw [hf] at h; simp at h
  | some f =>
    rw [hf] at h
    simp only [Bool.and_eq_true, beq_iff_eq] at h
    refine ⟨f, rfl, h.1.1, h.1.2, ?_⟩
    have h3 := h.2
    split at h3
    · rename_i k' hu
      rw [hu, of_decide_eq_true h3]
    · cases h3

theorem isBytes_of {P : Program} {fs : Array Field} {i o : Nat} (h : isBytes P fs i o = true) : ∃ f e, fs[i]? = some f ∧ f.offset = o ∧ P.cellsOf f.type = 1 ∧ P.underlying f.type = some (.slice e) ∧ P.underlying e = some (.int .u8) ∧ P.cellsOf e = 1 := by
  unfold isBytes at h
  cases hf : fs[i]? with
  | none => rw [hf] at h; simp at h
  | some f =>
    rw [hf] at h
    simp only [Bool.and_eq_true, beq_iff_eq] at h
    have h3 := h.2
    split at h3
    · rename_i e hu
      simp only [Bool.and_eq_true, beq_iff_eq] at h3
      have h4 := h3.2
      split at h4
      · rename_i k' hk
        exact ⟨f, e, rfl, h.1.1, h.1.2, hu, by rw [hk, of_decide_eq_true h4], h3.1⟩
      · cases h4
    · cases h3

theorem get_of_one {cs : List Value} {o : Nat} {v : Value} (h : (cs.drop o).take 1 = [v]) : cs[o]? = some v := by
  have h1 : ((cs.drop o).take 1)[0]? = some v := by rw [h]; rfl
  simpa [List.getElem?_take, List.getElem?_drop] using h1

section
variable {H : Type} {enc : TypeId × Value → H} {P : Program} {w : World} {b0 : Nat}

theorem octets_of {n : Nat} {t e : TypeId} {cs : List Value} {x : DataW H × List MemPlace} (ht : P.underlying t = some (.slice e)) (he : P.underlying e = some (.int .u8)) (hc : P.cellsOf e = 1)
    (h : DataW.trod enc P w 0 (fun _ => true) true n t cs = some x) (hlt : ∀ p ∈ x.2, p.block < w.heap.size) :
    ∃ (A : Option Addr) (cap : Nat) (zs : List Int), cs = [.slice A zs.length cap] ∧ zs.length ≤ cap ∧ cap ≤ maxLen ∧ Octets zs ∧ Holds w w.heap.size .u8 A zs := by
  rcases open_ints ht he hc h with ⟨hcs, hx⟩ | ⟨a, len, cap, zs, hcs, _, hl, hm, hz, hx, hcell, hwz⟩
  · exact ⟨none, 0, [], hcs, Nat.le_refl _, Nat.zero_le _, fun _ h => by simp at h, Holds.nil⟩
  · simp only [if_true] at hz
    have hlen : (zs.take len).length = len := by simp [hz, Nat.min_eq_left hl]
    refine ⟨some a, cap, zs.take len, by rw [hlen]; exact hcs, by rw [hlen]; exact hl, hm, fun n hn => bounds_u8 (hwz n (List.mem_of_mem_take hn)), fun hp => ?_⟩
    rw [hlen] at hp
    obtain ⟨b, off, spot⟩ := a
    have hspot : spot = none := by simpa [Addr.add] using World.cell?_spot (hcell 0 (by omega))
    subst hspot
    refine ⟨b, off, rfl, hlt (.cell b (off + 0)) (by rw [hx]; exact MemPlace.mem_row.2 ⟨0, by omega, by simp⟩), fun j hj => ?_⟩
    rw [hlen] at hj
    rw [← add_plain, hcell j (by omega)]
    simp [List.getD, show j < len by omega]

theorem open_iiib {t : TypeId} {fs : Array Field} {k0 k1 k2 : IntKind} (ht : P.underlying t = some (.struct fs)) (h0 : isInt P fs 0 0 k0 = true) (h1 : isInt P fs 1 1 k1 = true) (h2 : isInt P fs 2 2 k2 = true) (h3 : isBytes P fs 3 3 = true)
    (hsz : fs.size = 4) (hc : P.cellsOf t = 4) {v : Value} {d : DataW H} {ps : List MemPlace} (hv : Value.okWide P w .any b0 t v) (h : DataW.Trod enc P w 0 (fun _ => true) true t v d ps) (hlt : ∀ x ∈ ps, x.block < w.heap.size) :
    ∃ (a b x : Int) (A : Option Addr) (cap : Nat) (zs : List Int), v = .agg #[.int k0 a, .int k1 b, .int k2 x, .slice A zs.length cap] ∧ (Lit.int k0 a).wf = true ∧ (Lit.int k1 b).wf = true ∧ (Lit.int k2 x).wf = true ∧
      zs.length ≤ cap ∧ cap ≤ maxLen ∧ Octets zs ∧ Holds w w.heap.size .u8 A zs := by
  obtain ⟨cs, rfl, hcs⟩ := okWide_struct ht hv
  obtain ⟨fuel, hfu⟩ := h
  obtain ⟨xs, m, _, hx, hl, hxl, hg⟩ := DataW.trod_struct ht hfu
  simp only [Value.cells] at hg
  obtain ⟨f0, e0, o0, s0, u0⟩ := isInt_of h0
  obtain ⟨f1, e1, o1, s1, u1⟩ := isInt_of h1
  obtain ⟨f2, e2, o2, s2, u2⟩ := isInt_of h2
  obtain ⟨f3, e, e3, o3, s3, u3, ue, ce⟩ := isBytes_of h3
  have x0 : xs[0]? = some (xs[0]'(by omega)) := List.getElem?_eq_getElem (by omega)
  have x1 : xs[1]? = some (xs[1]'(by omega)) := List.getElem?_eq_getElem (by omega)
  have x2 : xs[2]? = some (xs[2]'(by omega)) := List.getElem?_eq_getElem (by omega)
  have x3 : xs[3]? = some (xs[3]'(by omega)) := List.getElem?_eq_getElem (by omega)
  have g0 := hg 0 f0 e0
  have g1 := hg 1 f1 e1
  have g2 := hg 2 f2 e2
  have g3 := hg 3 f3 e3
  rw [o0, s0, x0] at g0
  rw [o1, s1, x1] at g1
  rw [o2, s2, x2] at g2
  rw [o3, s3, x3] at g3
  obtain ⟨a, ha, _, wa⟩ := DataW.trod_int u0 g0
  obtain ⟨b, hb, _, wb⟩ := DataW.trod_int u1 g1
  obtain ⟨x, hxx, _, wx⟩ := DataW.trod_int u2 g2
  obtain ⟨A, cap, zs, hs, r1, r2, r3, r4⟩ := octets_of u3 ue ce g3 (fun p hp => hlt p (by
    have hps : ps = xs.flatMap (·.2) := congrArg Prod.snd hx
    rw [hps]
    exact List.mem_flatMap.2 ⟨_, List.getElem_mem _, hp⟩))
  refine ⟨a, b, x, A, cap, zs, ?_, wa, wb, wx, r1, r2, r3, r4⟩
  have q0 := get_of_one ha
  have q1 := get_of_one hb
  have q2 := get_of_one hxx
  have q3 := get_of_one hs
  obtain ⟨l⟩ := cs
  have hl4 : l.length = 4 := by simpa [hc] using hcs
  match l, hl4, q0, q1, q2, q3 with
  | [y0, y1, y2, y3], _, q0, q1, q2, q3 =>
    simp at q0 q1 q2 q3
    subst q0 q1 q2 q3
    rfl
end
end Go.Proofs.YtpnodocjpedcmaaDoor.Kit

namespace Go.Proofs.YtpnodocjpedcmaaDoor.Kit
open Go.ChangeShapes Go.WideShapes Go.ChangeAt Go.RowKit

/-- The slice at A holds these elements, each of sz cells that E tells; its memory lies below block B. -/
def HoldsE {R : Type} (E : R → List Value → Prop) (sz : Nat) (w : World) (B : Nat) (A : Option Addr) (rs : List R) : Prop :=
  0 < rs.length → ∃ b off : Nat, A = some ⟨b, off, none⟩ ∧ b < B ∧ ∀ (i : Nat) (r : R), rs[i]? = some r → ∃ cs, E r cs ∧ cs.length = sz ∧ ∀ (j : Nat) (c : Value), cs[j]? = some c → w.cell? ⟨b, off + i * sz + j, none⟩ = some c

theorem HoldsE.keep {R : Type} {E E' : R → List Value → Prop} {sz : Nat} {w w' : World} {B : Nat} {A : Option Addr} {rs : List R} (h : HoldsE E sz w B A rs) (hk : ∀ p : Addr, p.block < B → w'.cell? p = w.cell? p) (hE : ∀ r cs, E r cs → E' r cs) : HoldsE E' sz w' B A rs := by
  intro hx
  obtain ⟨b, off, e, hb, hc⟩ := h hx
  refine ⟨b, off, e, hb, fun i r hi => ?_⟩
  obtain ⟨cs, h1, h2, h3⟩ := hc i r hi
  exact ⟨cs, hE r cs h1, h2, fun j c hj => (hk _ hb).trans (h3 j c hj)⟩

section
variable {H : Type} {enc : TypeId × Value → H} {P : Program} {w : World} {b0 : Nat}

theorem list_of {R : Type} {Q : Nat → R → Prop} : ∀ (n : Nat), (∀ i, i < n → ∃ r, Q i r) → ∃ rs : List R, rs.length = n ∧ ∀ (i : Nat) (r : R), rs[i]? = some r → Q i r
  | 0, _ => ⟨[], rfl, fun i r hi => by simp at hi⟩
  | n + 1, h => by
    obtain ⟨rs, q1, q2⟩ := list_of n fun i hi => h i (by omega)
    obtain ⟨r, hr⟩ := h n (by omega)
    refine ⟨rs ++ [r], by simp [q1], fun i r' hi => ?_⟩
    by_cases hi' : i < n
    · rw [List.getElem?_append_left (by omega)] at hi
      exact q2 i r' hi
    · have him : i = n := by
        rcases Nat.lt_or_ge i (rs ++ [r]).length with h' | h'
        · simp at h'; omega
        · rw [List.getElem?_eq_none h'] at hi; cases hi
      subst him
      rw [List.getElem?_append_right (by omega), q1] at hi
      simp at hi
      subst hi
      exact hr

theorem open_slice_of {R : Type} (E : R → List Value → Prop) {t e : TypeId} (sz : Nat) (ht : P.underlying t = some (.slice e)) (hc : P.cellsOf e = sz) (hsz : 0 < sz)
    (hE : ∀ (n : Nat) (cs : List Value) (y : DataW H × List MemPlace), DataW.trod enc P w 0 (fun _ => true) true n e cs = some y → (∀ x ∈ y.2, x.block < w.heap.size) → ∃ r, E r cs)
    {v : Value} {d : DataW H} {ps : List MemPlace} (hval : Value.okWide P w .any b0 t v) (h : DataW.Trod enc P w 0 (fun _ => true) true t v d ps) (hlt : ∀ x ∈ ps, x.block < w.heap.size) :
    ∃ (A : Option Addr) (cap : Nat) (rs : List R), v = .slice A rs.length cap ∧ rs.length ≤ cap ∧ cap ≤ maxLen ∧ HoldsE E sz w w.heap.size A rs := by
  obtain ⟨a0, len, cap, rfl⟩ := okWide_slice ht hval
  obtain ⟨fuel, hfu⟩ := h
  rcases DataW.trod_slice ht hfu with ⟨hcs, _⟩ | ⟨a, len', cap', elems, rest, n, _, hcs, hx, _, hl, hm, hlen, hel, _, _⟩
  · simp [Value.cells] at hcs
    obtain ⟨rfl, rfl, rfl⟩ := hcs
    exact ⟨none, 0, [], rfl, Nat.le_refl _, Nat.zero_le _, fun h => absurd h (by simp)⟩
  · simp [Value.cells] at hcs
    obtain ⟨rfl, rfl, rfl⟩ := hcs
    simp only [Prod.mk.injEq] at hx
    have each : ∀ i, i < len → ∃ r, ∃ cs, E r cs ∧ cs.length = sz ∧ ∀ (j : Nat) (c : Value), cs[j]? = some c → w.cell? (a.add (i * sz + j)) = some c := by
      intro i hi
      have h1 := hel i hi
      have hx' : elems[i]? = some (elems[i]'(by omega)) := List.getElem?_eq_getElem (by omega)
      rw [hx'] at h1
      obtain ⟨cs, h2, h3⟩ := Option.bind_eq_some_iff.1 h1
      obtain ⟨_, h5, h6⟩ := World.cells?_some h2
      obtain ⟨r, hr⟩ := hE _ _ _ h3 (fun x hxx => hlt x (by
        rw [hx.2]
        refine List.mem_append_right _ ?_
        refine List.mem_flatMap.2 ⟨elems[i]'(by omega), ?_, hxx⟩
        first | exact List.getElem_mem _ | exact List.mem_append_left _ (List.getElem_mem _)))
      refine ⟨r, cs, hr, by rw [h5, hc], fun j c hj => ?_⟩
      have hj' : j < cs.length := by
        rcases Nat.lt_or_ge j cs.length with h' | h'
        · exact h'
        · rw [List.getElem?_eq_none h'] at hj; cases hj
      have h7 := h6 j (by omega)
      rw [hc] at h7
      have hadd : (a.add (i * sz)).add j = a.add (i * sz + j) := by
        unfold Addr.add
        by_cases h1 : i * sz = 0 <;> by_cases h2 : j = 0 <;> simp [h1, h2, Nat.add_assoc]
      rw [hadd] at h7
      rw [h7, hj]
    obtain ⟨rs, q1, q2⟩ := list_of len each
    refine ⟨some a, cap, rs, by rw [q1], by omega, hm, fun hx0 => ?_⟩
    obtain ⟨b, off, spot⟩ := a
    have hr0 : rs[0]? = some (rs[0]'hx0) := List.getElem?_eq_getElem hx0
    obtain ⟨cs0, _, hl0, hc0⟩ := q2 0 _ hr0
    have hspot : spot = none := by simpa [Addr.add] using World.cell?_spot (hc0 0 _ (List.getElem?_eq_getElem (by omega)))
    subst hspot
    have hpos : 0 < (elems.length + rest.length) * P.cellsOf e := Nat.mul_pos (by omega) (by omega)
    refine ⟨b, off, rfl, hlt (.cell b (off + 0)) (by rw [hx.2]; exact List.mem_append_left _ (MemPlace.mem_row.2 ⟨0, hpos, by simp⟩)), fun i r hi => ?_⟩
    obtain ⟨cs, h1, h2, h3⟩ := q2 i r hi
    refine ⟨cs, h1, h2, fun j c hj => ?_⟩
    have := h3 j c hj
    rw [add_plain] at this
    rw [Nat.add_assoc]
    exact this

/-- Three integers and bytes. -/
structure Stp where
  a : Int
  b : Int
  x : Int
  A : Option Addr
  cap : Nat
  zs : List Int

/-- How such a one lies in memory. -/
def StpIn (k0 k1 k2 : IntKind) (w : World) (B : Nat) (s : Stp) (cs : List Value) : Prop :=
  cs = [.int k0 s.a, .int k1 s.b, .int k2 s.x, .slice s.A s.zs.length s.cap] ∧ (Lit.int k0 s.a).wf = true ∧ (Lit.int k1 s.b).wf = true ∧ (Lit.int k2 s.x).wf = true ∧
    s.zs.length ≤ s.cap ∧ s.cap ≤ maxLen ∧ Octets s.zs ∧ Holds w B .u8 s.A s.zs

theorem read_iiib {t : TypeId} {fs : Array Field} {k0 k1 k2 : IntKind} (ht : P.underlying t = some (.struct fs)) (h0 : isInt P fs 0 0 k0 = true) (h1 : isInt P fs 1 1 k1 = true) (h2 : isInt P fs 2 2 k2 = true) (h3 : isBytes P fs 3 3 = true)
    (hsz : fs.size = 4) (hc : P.cellsOf t = 4) {n : Nat} {cs : List Value} {y : DataW H × List MemPlace} (h : DataW.trod enc P w 0 (fun _ => true) true n t cs = some y) (hlt : ∀ x ∈ y.2, x.block < w.heap.size) :
    ∃ s : Stp, StpIn k0 k1 k2 w w.heap.size s cs := by
  obtain ⟨xs, m, _, hx, hl, hxl, hg⟩ := DataW.trod_struct ht h
  obtain ⟨f0, e0, o0, s0, u0⟩ := isInt_of h0
  obtain ⟨f1, e1, o1, s1, u1⟩ := isInt_of h1
  obtain ⟨f2, e2, o2, s2, u2⟩ := isInt_of h2
  obtain ⟨f3, e, e3, o3, s3, u3, ue, ce⟩ := isBytes_of h3
  have x0 : xs[0]? = some (xs[0]'(by omega)) := List.getElem?_eq_getElem (by omega)
  have x1 : xs[1]? = some (xs[1]'(by omega)) := List.getElem?_eq_getElem (by omega)
  have x2 : xs[2]? = some (xs[2]'(by omega)) := List.getElem?_eq_getElem (by omega)
  have x3 : xs[3]? = some (xs[3]'(by omega)) := List.getElem?_eq_getElem (by omega)
  have g0 := hg 0 f0 e0
  have g1 := hg 1 f1 e1
  have g2 := hg 2 f2 e2
  have g3 := hg 3 f3 e3
  rw [o0, s0, x0] at g0
  rw [o1, s1, x1] at g1
  rw [o2, s2, x2] at g2
  rw [o3, s3, x3] at g3
  obtain ⟨a, ha, _, wa⟩ := DataW.trod_int u0 g0
  obtain ⟨b, hb, _, wb⟩ := DataW.trod_int u1 g1
  obtain ⟨x, hxx, _, wx⟩ := DataW.trod_int u2 g2
  obtain ⟨A, cap, zs, hs, r1, r2, r3, r4⟩ := octets_of u3 ue ce g3 (fun p hp => hlt p (by
    have hps : y.2 = xs.flatMap (·.2) := congrArg Prod.snd hx
    rw [hps]
    exact List.mem_flatMap.2 ⟨_, List.getElem_mem _, hp⟩))
  refine ⟨⟨a, b, x, A, cap, zs⟩, ?_, wa, wb, wx, r1, r2, r3, r4⟩
  have q0 := get_of_one ha
  have q1 := get_of_one hb
  have q2 := get_of_one hxx
  have q3 := get_of_one hs
  have hl4 : cs.length = 4 := by omega
  match cs, hl4, q0, q1, q2, q3 with
  | [y0, y1, y2, y3], _, q0, q1, q2, q3 =>
    simp at q0 q1 q2 q3
    subst q0 q1 q2 q3
    rfl

/-- A slice of such ones that came in. -/
theorem open_steps {t e : TypeId} {fs : Array Field} {k0 k1 k2 : IntKind} (ht : P.underlying t = some (.slice e)) (he : P.underlying e = some (.struct fs)) (h0 : isInt P fs 0 0 k0 = true) (h1 : isInt P fs 1 1 k1 = true) (h2 : isInt P fs 2 2 k2 = true) (h3 : isBytes P fs 3 3 = true)
    (hsz : fs.size = 4) (hc : P.cellsOf e = 4) {v : Value} {d : DataW H} {ps : List MemPlace} (hval : Value.okWide P w .any b0 t v) (h : DataW.Trod enc P w 0 (fun _ => true) true t v d ps) (hlt : ∀ x ∈ ps, x.block < w.heap.size) :
    ∃ (A : Option Addr) (cap : Nat) (ss : List Stp), v = .slice A ss.length cap ∧ ss.length ≤ cap ∧ cap ≤ maxLen ∧ HoldsE (StpIn k0 k1 k2 w w.heap.size) 4 w w.heap.size A ss :=
  open_slice_of (StpIn k0 k1 k2 w w.heap.size) 4 ht hc (by omega) (fun _ _ _ h hp => read_iiib he h0 h1 h2 h3 hsz hc h hp) hval h hlt

/-- The steps at A, element by element. -/
theorem stepAt {k0 k1 k2 : IntKind} {w : World} {B : Nat} {A : Option Addr} {ss : List Stp} (h : HoldsE (StpIn k0 k1 k2 w B) 4 w B A ss) {i : Nat} (hi : i < ss.length) :
    ∃ b off : Nat, A = some ⟨b, off, none⟩ ∧ b < B ∧ w.cell? ⟨b, off + i * 4, none⟩ = some (.int k0 ss[i].a) ∧ w.cell? ⟨b, off + i * 4 + 1, none⟩ = some (.int k1 ss[i].b) ∧ w.cell? ⟨b, off + i * 4 + 2, none⟩ = some (.int k2 ss[i].x) ∧
      w.cell? ⟨b, off + i * 4 + 3, none⟩ = some (.slice ss[i].A ss[i].zs.length ss[i].cap) ∧ (Lit.int k0 ss[i].a).wf = true ∧ (Lit.int k1 ss[i].b).wf = true ∧ (Lit.int k2 ss[i].x).wf = true ∧
      ss[i].zs.length ≤ ss[i].cap ∧ ss[i].cap ≤ maxLen ∧ Octets ss[i].zs ∧ Holds w B .u8 ss[i].A ss[i].zs := by
  obtain ⟨b, off, rfl, hb, hc⟩ := h (by omega)
  obtain ⟨cs, ⟨rfl, r1, r2, r3, r4, r5, r6, r7⟩, _, hcs⟩ := hc i ss[i] (List.getElem?_eq_getElem hi)
  exact ⟨b, off, rfl, hb, by simpa using hcs 0 _ rfl, hcs 1 _ rfl, hcs 2 _ rfl, hcs 3 _ rfl, r1, r2, r3, r4, r5, r6, r7⟩

theorem steps_below {k0 k1 k2 : IntKind} {w w' : World} {B : Nat} {A : Option Addr} {ss : List Stp} (h : HoldsE (StpIn k0 k1 k2 w B) 4 w B A ss) (hb : Below B w w') : HoldsE (StpIn k0 k1 k2 w' B) 4 w' B A ss :=
  h.keep (fun _ hp => hb.cell hp) fun _ _ ⟨r0, r1, r2, r3, r4, r5, r6, r7⟩ => ⟨r0, r1, r2, r3, r4, r5, r6, r7.below hb⟩
end
end Go.Proofs.YtpnodocjpedcmaaDoor.Kit

namespace Go.Proofs.YtpnodocjpedcmaaDoor.Kit
open Go.ChangeShapes Go.WideShapes Go.ChangeAt Go.RowKit

/-- A row of bytes. -/
structure Rw where
  A : Option Addr
  cap : Nat
  zs : List Int

/-- How such a one lies in memory. -/
def RwIn (w : World) (B : Nat) (r : Rw) (cs : List Value) : Prop := cs = [.slice r.A r.zs.length r.cap] ∧ r.zs.length ≤ r.cap ∧ r.cap ≤ maxLen ∧ Octets r.zs ∧ Holds w B .u8 r.A r.zs

/-- The slice at A holds these rows of bytes, all below block B. -/
def HoldsW (w : World) (B : Nat) (A : Option Addr) (rs : List Rw) : Prop := HoldsE (RwIn w B) 1 w B A rs

section
variable {H : Type} {enc : TypeId × Value → H} {P : Program} {w w' : World} {b0 : Nat}
theorem open_rowsB {t u e : TypeId} (ht : P.underlying t = some (.slice u)) (hu : P.underlying u = some (.slice e)) (he : P.underlying e = some (.int .u8)) (hcu : P.cellsOf u = 1) (hce : P.cellsOf e = 1)
    {v : Value} {d : DataW H} {ps : List MemPlace} (hval : Value.okWide P w .any b0 t v) (h : DataW.Trod enc P w 0 (fun _ => true) true t v d ps) (hlt : ∀ x ∈ ps, x.block < w.heap.size) :
    ∃ (A : Option Addr) (cap : Nat) (rs : List Rw), v = .slice A rs.length cap ∧ rs.length ≤ cap ∧ cap ≤ maxLen ∧ HoldsW w w.heap.size A rs :=
  open_slice_of (RwIn w w.heap.size) 1 ht hcu (by omega) (fun _ _ _ h hp => by
    obtain ⟨A, cap, zs, rfl, r1, r2, r3, r4⟩ := octets_of hu he hce h hp
    exact ⟨⟨A, cap, zs⟩, rfl, r1, r2, r3, r4⟩) hval h hlt

theorem rwAt {B : Nat} {A : Option Addr} {rs : List Rw} (h : HoldsW w B A rs) {i : Nat} (hi : i < rs.length) :
    ∃ b off : Nat, A = some ⟨b, off, none⟩ ∧ b < B ∧ w.cell? ⟨b, off + i, none⟩ = some (.slice rs[i].A rs[i].zs.length rs[i].cap) ∧ rs[i].zs.length ≤ rs[i].cap ∧ rs[i].cap ≤ maxLen ∧ Octets rs[i].zs ∧ Holds w B .u8 rs[i].A rs[i].zs := by
  obtain ⟨b, off, rfl, hb, hc⟩ := h (by omega)
  obtain ⟨cs, ⟨rfl, r4, r5, r6, r7⟩, _, hcs⟩ := hc i rs[i] (List.getElem?_eq_getElem hi)
  exact ⟨b, off, rfl, hb, by simpa using hcs 0 _ rfl, r4, r5, r6, r7⟩

theorem HoldsW.below {B : Nat} {A : Option Addr} {rs : List Rw} (h : HoldsW w B A rs) (hb : Below B w w') : HoldsW w' B A rs :=
  h.keep (fun _ hp => hb.cell hp) fun _ _ ⟨r0, r4, r5, r6, r7⟩ => ⟨r0, r4, r5, r6, r7.below hb⟩

theorem HoldsW.more {B B' : Nat} {A : Option Addr} {rs : List Rw} (h : HoldsW w B A rs) (hB : B ≤ B') : HoldsW w B' A rs := by
  intro hx
  obtain ⟨b, off, e, hb, hc⟩ := h hx
  refine ⟨b, off, e, by omega, fun i r hi => ?_⟩
  obtain ⟨cs, ⟨r0, r4, r5, r6, r7⟩, h2, h3⟩ := hc i r hi
  exact ⟨cs, ⟨r0, r4, r5, r6, r7.more hB⟩, h2, h3⟩

/-- The first n rows. -/
theorem HoldsW.head {B : Nat} {A : Option Addr} {rs : List Rw} (h : HoldsW w B A rs) (n : Nat) : HoldsW w B A (rs.take n) := by
  intro hx
  simp only [List.length_take] at hx
  obtain ⟨b, off, e, hb, hc⟩ := h (by omega)
  refine ⟨b, off, e, hb, fun i r hi => hc i r ?_⟩
  rw [List.getElem?_take] at hi
  split at hi
  · exact hi
  · cases hi

/-- All rows' bytes. -/
def joinL (rs : List Rw) : List Int := rs.flatMap (·.zs)
theorem joinL_next {rs : List Rw} {i : Nat} (hi : i < rs.length) : joinL (rs.take (i + 1)) = joinL (rs.take i) ++ rs[i].zs := by
  unfold joinL
  rw [List.take_succ_eq_append_getElem hi, List.flatMap_append]
  simp
theorem joinL_le {rs : List Rw} {m : Nat} (h : ∀ r ∈ rs, r.zs.length ≤ m) : (joinL rs).length ≤ rs.length * m := by
  induction rs with
  | nil => simp [joinL]
  | cons r rs ih =>
    have h1 := ih (fun x hx => h x (by simp [hx]))
    have h2 := h r (by simp)
    unfold joinL at h1 ⊢
    rw [List.flatMap_cons, List.length_append, List.length_cons, Nat.succ_mul]
    omega
theorem joinL_octets {rs : List Rw} (h : ∀ r ∈ rs, Octets r.zs) : Octets (joinL rs) := by
  intro x hx
  obtain ⟨r, hr, hx⟩ := List.mem_flatMap.1 hx
  exact h r hr x hx
theorem HoldsW.octets {B : Nat} {A : Option Addr} {rs : List Rw} (h : HoldsW w B A rs) : ∀ r ∈ rs, Octets r.zs := by
  intro r hr
  obtain ⟨i, hi, rfl⟩ := List.mem_iff_getElem.1 hr
  obtain ⟨_, _, _, _, _, _, _, h6, _⟩ := rwAt h hi
  exact h6
end
end Go.Proofs.YtpnodocjpedcmaaDoor.Kit

namespace Go.Proofs.YtpnodocjpedcmaaDoor.Kit
open Go.ChangeShapes Go.WideShapes Go.ChangeAt Go.RowKit

/-- A row's slice. -/
def Rw.val (r : Rw) : Value := .slice r.A r.zs.length r.cap
/-- A row that may be. -/
def RwOk (w : World) (B : Nat) (r : Rw) : Prop := r.zs.length ≤ r.cap ∧ r.cap ≤ maxLen ∧ Octets r.zs ∧ Holds w B .u8 r.A r.zs

theorem RwOk.below {w w' : World} {B : Nat} {r : Rw} (h : RwOk w B r) (hb : Below B w w') : RwOk w' B r := ⟨h.1, h.2.1, h.2.2.1, h.2.2.2.below hb⟩
theorem RwOk.more {w : World} {B B' : Nat} {r : Rw} (h : RwOk w B r) (hb : B ≤ B') : RwOk w B' r := ⟨h.1, h.2.1, h.2.2.1, h.2.2.2.more hb⟩
theorem RwOk.on {w w' : World} {r : Rw} (h : RwOk w w.heap.size r) (hb : Below w.heap.size w w') : RwOk w' w'.heap.size r := (h.below hb).more hb.size
theorem RwOk.arr {w : World} {g : Nat} {t : TypeId} {xs : List Int} (h : Arr w g t .u8 xs) (ho : Octets xs) (hl : xs.length ≤ maxLen) : RwOk w w.heap.size ⟨some ⟨g, 0, none⟩, xs.length, xs⟩ :=
  ⟨Nat.le_refl _, hl, ho, h.holds_all⟩

theorem rows_laid {w : World} {t : TypeId} (rs : List Rw) (h : ∀ r ∈ rs, RwOk w w.heap.size r) :
    HoldsW (w.alloc (.cells (rs.map Rw.val).toArray t)) (w.alloc (.cells (rs.map Rw.val).toArray t)).heap.size (some ⟨w.heap.size, 0, none⟩) rs := by
  have bk := Block.new w t (rs.map Rw.val).toArray
  have hb := (Below.refl w.heap.size w).alloc (Nat.le_refl _) (.cells (rs.map Rw.val).toArray t)
  intro _
  refine ⟨w.heap.size, 0, rfl, by simp, fun i r hi => ?_⟩
  have hr := (h r (List.mem_of_getElem? hi)).on hb
  refine ⟨_, ⟨rfl, hr⟩, rfl, fun j v hj => ?_⟩
  have hj0 : j = 0 := by
    rcases j with _ | j
    · rfl
    · simp at hj
  subst hj0
  have hv : v = r.val := by simpa [Rw.val] using hj.symm
  subst hv
  rw [Nat.zero_add, Nat.mul_one, Nat.add_zero, bk.cell i]
  simp [hi]
end Go.Proofs.YtpnodocjpedcmaaDoor.Kit

namespace Go.Proofs.YtpnodocjpedcmaaDoor.Kit
open Go.ChangeShapes Go.WideShapes Go.ChangeAt Go.RowKit

theorem res_new (w : World) (t : TypeId) : Arr (w.alloc (.cells ((List.replicate 32 (0 : Int)).map (Value.int .u8)).toArray t)) w.heap.size t .u8 (List.replicate 32 0) := Arr.new w _ _ _
theorem arr_kept {w w' : World} {g : Nat} {t : TypeId} {k : IntKind} {xs : List Int} {o : Obj} (h : Arr w g t k xs) (g9 : (w.alloc o).grownBy w' (some w.heap.size)) : Arr w' g t k xs :=
  Arr.grown (h.alloc o) g9 (by intro e; injection e with e; have := Arr.lt h; omega)
theorem below_fill {B : Nat} {w0 w w' : World} {o : Obj} (h : Below B w0 w) (hB : B ≤ w.heap.size) (g9 : (w.alloc o).grownBy w' (some w.heap.size)) : Below B w0 w' :=
  (h.alloc hB o).trans (below_of_grown g9 (by simp; omega) fun b hb => by injection hb with hb; omega)
theorem Holds.prefix_ {w : World} {B : Nat} {k : IntKind} {A : Option Addr} {xs : List Int} (h : Holds w B k A xs) (n : Nat) : Holds w B k A (xs.take n) := by
  intro hx
  rw [List.length_take] at hx
  obtain ⟨b, off, e, hb, hc⟩ := h (by omega)
  refine ⟨b, off, e, hb, fun j hj => ?_⟩
  rw [List.length_take] at hj
  rw [hc j (by omega)]
  simp [List.getD, List.getElem?_take, show j < n by omega]
theorem Holds.on {w w' : World} {k : IntKind} {A : Option Addr} {xs : List Int} (h : Holds w w.heap.size k A xs) (hb : Below w.heap.size w w') : Holds w' w'.heap.size k A xs := (h.below hb).more hb.size
theorem Holds.fill {w w' : World} {k : IntKind} {A : Option Addr} {xs : List Int} {o : Obj} (h : Holds w w.heap.size k A xs) (g9 : (w.alloc o).grownBy w' (some w.heap.size)) : Holds w' w'.heap.size k A xs := h.on (below_fill (Below.refl _ _) (Nat.le_refl _) g9)

/-- Results: a whole array out of its block, and a plain value. -/
theorem results_row_tmp {P : Program} {fn : Func} {p q : Tmp} {ty : TypeId} (h : fn.results = #[.cell p ty, .tmp q]) (tmps : Array Value) (w : World) (g : Nat) (t : TypeId) (cs : Array Value) (fr : Nat × Nat) (d : TypeDesc)
    (hp : tmps.getD p undef = .pointer (some ⟨g, 0, none⟩)) (hg : w.heap[g]? = some (.cells cs t fr)) (v : Value) (hq : tmps.getD q undef = v)
    (hu : P.underlying ty = some d) (hd : (match d with | .struct _ | .array _ _ => true | _ => false) = true) (hi : (P.info? ty).map (·.size) = some cs.size) :
    (results fn tmps).run P w = .ok (.tuple #[.agg cs, v]) w := by
  have hp' : tmps[p]?.getD undef = .pointer (some ⟨g, 0, none⟩) := by simpa using hp
  have hq' : tmps[q]?.getD undef = v := by simpa using hq
  simp [results, h, hp', hq', asAddr, run_loadVar_row w g t ty cs fr d hg hu hd hi]
end Go.Proofs.YtpnodocjpedcmaaDoor.Kit

namespace Go.Proofs.YtpnodocjpedcmaaDoor.Pt
open Go.ChangeShapes Go.WideShapes Go.ChangeAt Go.RowKit Go.Proofs.YtpnodocjpedcmaaDoor.Kit

theorem str_cut (xs : List Int) (lo hi : Nat) : (strOfNums xs).extract lo hi = strOfNums ((xs.drop lo).take (hi - lo)) := by
  apply ByteArray.ext
  rw [ByteArray.data_extract]
  apply Array.toList_inj.1
  unfold strOfNums
  simp [List.map_take, List.map_drop]
theorem str_join (xs ys : List Int) : strOfNums xs ++ strOfNums ys = strOfNums (xs ++ ys) := by
  apply ByteArray.ext
  rw [ByteArray.data_append]
  unfold strOfNums
  simp
end Go.Proofs.YtpnodocjpedcmaaDoor.Pt

namespace Go.Proofs.YtpnodocjpedcmaaDoor.Sec
open Go.ChangeShapes Go.WideShapes Go.ChangeAt Go.RowKit Go.Proofs.YtpnodocjpedcmaaDoor.Kit

def strB : Option (List Int) → ByteArray
  | some xs => strOfNums xs
  | none => ⟨#[]⟩
def cellsF (p : Int × Option (List Int)) : List Value := [.int .i64 p.1, .string (strB p.2), .bool p.2.isNone]
/-- The slice at A holds these sectors; its memory lies below block B. -/
def HoldsF (w : World) (B : Nat) (A : Option Addr) (l : Sl) : Prop :=
  0 < l.length → ∃ b off : Nat, A = some ⟨b, off, none⟩ ∧ b < B ∧ ∀ (j : Nat) (p : Int × Option (List Int)), l[j]? = some p → w.rangeAt b (off + j * 3) (cellsF p)
theorem HoldsF.nil {w : World} {B : Nat} {A : Option Addr} : HoldsF w B A [] := fun h => absurd h (by simp)
theorem HoldsF.below {w w' : World} {B : Nat} {A : Option Addr} {l : Sl} (h : HoldsF w B A l) (hb : Below B w w') : HoldsF w' B A l := by
  intro hx
  obtain ⟨b, off, e, hB, hc⟩ := h hx
  exact ⟨b, off, e, hB, fun j p hj i u hu => (hb.cell (p := ⟨b, _, none⟩) hB).trans (hc j p hj i u hu)⟩
theorem HoldsF.more {w : World} {B B' : Nat} {A : Option Addr} {l : Sl} (h : HoldsF w B A l) (hB : B ≤ B') : HoldsF w B' A l := by
  intro hx
  obtain ⟨b, off, e, hb, hc⟩ := h hx
  exact ⟨b, off, e, by omega, hc⟩
theorem HoldsF.drewN {w : World} {B : Nat} {A : Option Addr} {l : Sl} (h : HoldsF w B A l) (n : Nat) : HoldsF (w.drewN n) B A l := h

/-- v is a row of sectors of the call's own. -/
def OwnF (w : World) (B : Nat) (v : Value) (l : Sl) : Prop := w.ownsRow B 95 3 v l.length (l.flatMap cellsF)
theorem flatF : ∀ (l : Sl) (i j : Nat) (p : Int × Option (List Int)) (u : Value), l[i]? = some p → (cellsF p)[j]? = some u → (l.flatMap cellsF)[i * 3 + j]? = some u
  | [], i, j, s, u, h, _ => by simp at h
  | a :: l, 0, j, s, u, h, hu => by
    simp at h
    subst h
    have hj : j < (cellsF a).length := (List.getElem?_eq_some_iff.1 hu).1
    rw [List.flatMap_cons, Nat.zero_mul, Nat.zero_add, List.getElem?_append_left hj]
    exact hu
  | a :: l, i + 1, j, s, u, h, hu => by
    have ih := flatF l i j s u (by simpa using h) hu
    rw [List.flatMap_cons, List.getElem?_append_right (by simp [cellsF]; omega)]
    have e : (i + 1) * 3 + j - (cellsF a).length = i * 3 + j := by simp [cellsF]; omega
    rw [e]
    exact ih
section
variable {w w' : World} {B : Nat} {v : Value} {l : Sl}
theorem OwnF.nil (w : World) (B : Nat) : OwnF w B (.slice none 0 0) [] := World.ownsRow_nil w B _ 3
theorem OwnF.empty {B : Nat} (w : World) (hB : B ≤ w.heap.size) : OwnF (w.alloc (.cells #[] 95)) B (.slice (some ⟨w.heap.size, 0, none⟩) 0 0) [] :=
  World.ownsRow_lit (size := 3) w #[] 0 hB (Nat.zero_le _) rfl
theorem OwnF.opened (h : OwnF w B v l) : ∃ (A : Option Addr) (c : Nat), v = .slice A l.length c ∧ l.length ≤ c ∧ c ≤ maxLen ∧ HoldsF w w.heap.size A l := by
  rcases h.2 with ⟨rfl, h0⟩ | ⟨g, cap, cur, rfl, hb, hg2, hnc, hcm, hcs, htake⟩
  · refine ⟨none, 0, by rw [h0], by omega, Nat.zero_le _, fun hx => by omega⟩
  · refine ⟨some ⟨g, 0, none⟩, cap, rfl, hnc, hcm, fun hx => ⟨g, 0, rfl, (Array.getElem?_eq_some_iff.1 hg2).1, fun i p hi j u hu => ?_⟩⟩
    have hcell := World.ownsRow.cells h (g := g) rfl (i * 3 + j) u (flatF l i j p u hi hu)
    rw [add_plain] at hcell
    rw [Nat.zero_add] at hcell ⊢
    exact hcell
theorem OwnF.lt (h : OwnF w B v l) : ∀ g, v.ownBlock = some g → B ≤ g ∧ g < w.heap.size := World.ownsRow.lt h
theorem OwnF.alloc (h : OwnF w B v l) (o : Obj) : OwnF (w.alloc o) B v l := World.ownsRow.alloc h o
theorem OwnF.drewN (h : OwnF w B v l) (n : Nat) : OwnF (w.drewN n) B v l := h
theorem OwnF.mono {B' : Nat} (h : OwnF w B v l) (hB : B' ≤ B) : OwnF w B' v l := by
  rcases h.2 with ⟨rfl, h0⟩ | ⟨g, cap, cur, rfl, hbg, hg, hnc, hcm, hcs, htake⟩
  · exact ⟨h.1, .inl ⟨rfl, h0⟩⟩
  · exact ⟨h.1, .inr ⟨g, cap, cur, rfl, by omega, hg, hnc, hcm, hcs, htake⟩⟩
theorem OwnF.out {S : Nat → Prop} (h : OwnF w B v l) (ho : TurnsIn S w w') (hv : ∀ g, v.ownBlock = some g → ¬ S g) : OwnF w' B v l := by
  rcases h.2 with ⟨rfl, h0⟩ | ⟨g, cap, cur, rfl, hbg, hg, hnc, hcm, hcs, htake⟩
  · exact ⟨h.1, .inl ⟨rfl, h0⟩⟩
  · exact ⟨h.1, .inr ⟨g, cap, cur, rfl, hbg, (ho.block g (Array.getElem?_eq_some_iff.1 hg).1 (hv g rfl)).trans hg, hnc, hcm, hcs, htake⟩⟩
theorem OwnF.turned (h : OwnF w B v l) (t : TurnsIn (fun b => v.ownBlock = some b) w w') (hB : B ≤ w.heap.size) : Below B w w' :=
  t.toBelow hB fun b hb he => by have := h.lt b he; omega
theorem elemF : Tryd.prog.underlying 28 = some (.slice 95) ∧ (Tryd.prog.info? 95).map (fun i => (i.zero, i.size, i.bytes)) = some (some (.agg #[.int .i64 0, .string ⟨#[]⟩, .bool false]), 3, 32) := by
  constructor <;> kernel_rfl

theorem run_append_F (h : OwnF w B v l) (p : Int × Option (List Int)) (c : Nat) (hsz : l.length ≤ 1000000000) (hbase : B ≤ w.heap.size) (ty : TypeId) :
    ∃ A' c' w', (Builtin.append_ #[28, 28] ty #[v, .slice (some ⟨w.heap.size, 0, none⟩) 1 c]).run Tryd.prog (w.alloc (.cells (cellsF p).toArray 95)) = .ok (.slice A' (l.length + 1) c') w' ∧
      OwnF w' B (.slice A' (l.length + 1) c') (l ++ [p]) ∧ TurnsIn (fun b => v.ownBlock = some b) w w' := by
  obtain ⟨ht, hinfo⟩ := elemF
  obtain ⟨i, hi, hz, hs, hby⟩ := info_parts hinfo
  have hnew := Block.new w 95 (cellsF p).toArray
  obtain ⟨g, cap, w', hrun, h2, h3, _, _⟩ := run_append_lies (P := Tryd.prog) (w.alloc (.cells (cellsF p).toArray 95)) 28 ty B 95 i _ 3 32 ht hi hz hs hby rfl (by omega) v l.length (l.flatMap cellsF) (h.alloc _)
    ⟨w.heap.size, 0, none⟩ 1 c (cellsF p) (by simp [cellsF]) (by
      intro j u hu
      have := World.news_of_block hnew j u (by simpa using hu)
      exact this) (by
      intro u hu
      simp [cellsF] at hu
      rcases hu with rfl | rfl | rfl <;> rfl) (by omega) (by unfold maxLen; omega) (by omega) (by simp; omega) _ rfl
  refine ⟨some ⟨g, 0, none⟩, cap, w', hrun, ?_, ((TurnsIn.refl _ w).alloc _).trans (.ofGrown h3 fun b hb => hb)⟩
  unfold OwnF
  rw [List.length_append, List.flatMap_append]
  simpa using h2
theorem wpList_append_F {ops : Array Oper} {rest : List Oper} {o : Oper} {a : Act} {Q : Exit → Act → World → Prop} (hgd : o.guard = none) (s x : Operand)
    (ho : o.op = Op.call { callee := Callee.builtin Builtin.append, args := #[s, x], argTypes := #[28, 28] })
    (p : Int × Option (List Int)) (hown : OwnF w B v l) (hs : a.eval s = v) {c : Nat} (hx : a.eval x = .slice (some ⟨w.heap.size, 0, none⟩) 1 c) (hsz : l.length ≤ 1000000000) (hbase : B ≤ w.heap.size)
    (hK : ∀ v' w', OwnF w' B v' (l ++ [p]) → Below B w w' → wpList Tryd.prog ops Q rest (a.put o.dst v') w') :
    wpList Tryd.prog ops Q (o :: rest) a (w.alloc (.cells #[.int .i64 p.1, .string (strB p.2), .bool p.2.isNone] 95)) := by
  refine wpList_plain hgd fun K hK2 => ?_
  obtain ⟨A', c', w', hrun, h2, h3⟩ := run_append_F hown p c hsz hbase o.type
  have hrun' : (Builtin.append_ #[28, 28] o.type #[v, .slice (some ⟨w.heap.size, 0, none⟩) 1 c]).run Tryd.prog (w.alloc (.cells #[.int .i64 p.1, .string (strB p.2), .bool p.2.isNone] 95)) = .ok (.slice A' (l.length + 1) c') w' := hrun
  unfold Oper.wp
  simp only [execOp, ho, resolve, invoke, builtin, Sem.run_bind, Sem.run_pure, Result.andThen_ok, List.map_toArray, List.map_cons, List.map_nil, hs, hx, hrun']
  exact hK2 _ _ (hK _ _ h2 (hown.turned h3 hbase))
end

/-- find: where a sector stands. -/
def FindsAt (l : Sl) (k : Int) (w : World) (e : Ending) (w' : World) : Prop :=
  w = w' ∧ match getS l k with
    | none => e = .returned (.int .i64 (-1))
    | some o => ∃ i : Nat, l[i]? = some (k, o) ∧ e = .returned (.int .i64 i)
theorem getS_take {l : Sl} {k : Int} {j : Nat} (hj : j < l.length) (h : getS (l.take j) k = none) : getS l k = if (l.getD j (0, none)).1 = k then some (l.getD j (0, none)).2 else getS (l.drop (j + 1)) k := by
  induction l generalizing j with
  | nil => simp at hj
  | cons q r ih =>
    obtain ⟨i, u⟩ := q
    cases j with
    | zero => rfl
    | succ n =>
      have e1 : getS ((i, u) :: r.take n) k = if i = k then some u else getS (r.take n) k := rfl
      rw [List.take_succ_cons, e1] at h
      have e2 : getS ((i, u) :: r) k = if i = k then some u else getS r k := rfl
      by_cases c : i = k
      · rw [if_pos c] at h; cases h
      · rw [if_neg c] at h
        rw [e2, if_neg c, ih (by simpa using hj) h]
        simp
theorem getS_take_next {l : Sl} {k : Int} {j : Nat} (hj : j < l.length) (h : getS (l.take j) k = none) (hk : (l.getD j (0, none)).1 ≠ k) : getS (l.take (j + 1)) k = none := by
  induction l generalizing j with
  | nil => simp at hj
  | cons q r ih =>
    obtain ⟨i, u⟩ := q
    cases j with
    | zero =>
      have e1 : getS ((i, u) :: ([] : Sl)) k = if i = k then some u else none := rfl
      simp only [Nat.zero_add, List.take_succ_cons, List.take_zero]
      rw [e1, if_neg (by simpa using hk)]
    | succ n =>
      have e1 : ∀ m, getS ((i, u) :: r.take m) k = if i = k then some u else getS (r.take m) k := fun _ => rfl
      rw [List.take_succ_cons, e1] at h ⊢
      by_cases c : i = k
      · rw [if_pos c] at h; cases h
      · rw [if_neg c] at h ⊢
        exact ih (by simpa using hj) h (by simpa using hk)

set_option maxRecDepth 100000 in
set_option maxHeartbeats 1600000 in
theorem find_any (A : Option Addr) (l : Sl) (c : Nat) (k : Int) (w : World) (hl : l.length ≤ 1000000000) (hr : HoldsF w w.heap.size A l) :
    Calls Tryd.prog 80 #[.slice A l.length c, .int .i64 k] w (FindsAt l k w) := by
  have HT := Lib.hid (fun j (h : j < l.length) => @getS_take l k j h)
  have HN := Lib.hid (fun j (h : j < l.length) => @getS_take_next l k j h)
  have HE : Hid (l.take l.length = l) := Lib.hid List.take_length
  go_enter Tryd.func80, Tryd.ntmps80
  go_wp2
  go_loop [8] (fun i => ∃ j : Nat, j ≤ l.length ∧ i = .int .i64 j ∧ getS (l.take j) k = none) (fun i => l.length - (intOf i).toNat)
  case atStart => exact ⟨0, Nat.zero_le _, rfl, rfl⟩
  case round =>
    obtain ⟨j, hj, rfl, hnone⟩ := hrel
    have Ha := Lib.hid hnone
    clear hnone
    by_cases hlt : j < l.length
    · obtain ⟨b, off, rfl, hb, hc⟩ := hr (by omega)
      have hp : l[j]? = some (l.getD j (0, none)) := by simp [List.getD, List.getElem?_eq_getElem hlt]
      have hcj : w.cell? ⟨b, off + j * 3, none⟩ = some (.int .i64 (l.getD j (0, none)).1) := hc j _ hp 0 _ rfl
      have hnext := Lib.hid (HN.out j hlt Ha.out)
      have hthis := Lib.hid (HT.out j hlt Ha.out)
      have HP := Lib.hid hp
      clear hc hp
      generalize l.getD j (0, none) = q at *
      have d1 : decide ((j : Int) < (l.length : Int)) = true := decide_eq_true (by omega)
      have d2 : decide (j < l.length) = true := decide_eq_true hlt
      by_cases hq : q.1 = k
      · have e1 : (q.1 == k) = true := by simpa using hq
        have hg : getS l k = some q.2 := by rw [hthis.out, if_pos hq]
        have Hg := Lib.hid hg
        have HQ := Lib.hid hq
        clear hg hq
        go_wp2
        go_ret
        refine ⟨rfl, ?_⟩
        rw [Hg.out]
        exact ⟨j, by rw [HP.out, ← HQ.out], rfl⟩
      · have e1 : (q.1 == k) = false := by simpa using hq
        have HQ := Lib.hid hq
        clear hq
        go_wp2
        go_round
        case rel => exact ⟨j + 1, hlt, by go_num, hnext.out HQ.out⟩
        case measure => simp [intOf] <;> omega
    · obtain rfl : j = l.length := by omega
      have d1 : decide ((l.length : Int) < (l.length : Int)) = false := decide_eq_false (by omega)
      have d2 : decide (l.length < l.length) = false := decide_eq_false (by omega)
      rw [HE.out] at Ha
      go_wp2
      go_ret
      refine ⟨rfl, ?_⟩
      rw [Ha.out]
      rfl
end Go.Proofs.YtpnodocjpedcmaaDoor.Sec

namespace Go.Proofs.YtpnodocjpedcmaaDoor.Sec
open Go.ChangeShapes Go.WideShapes Go.ChangeAt Go.RowKit Go.Proofs.YtpnodocjpedcmaaDoor.Kit

/-- A row of cells of any values is loaded, where a guard may stand. -/
theorem wpList_load_midV {P : Program} {w : World} {ops : Array Oper} {rest : List Oper} {o : Oper} {a : Act} {Q : Exit → Act → World → Prop} (hw : Region.wanted o (yielded ops a.tmps) = true) (ty : TypeId) (x : Operand) (ho : o.op = .load ty x)
    (b f : Nat) (hx : a.eval x = .pointer (some ⟨b, f, none⟩)) (cs : List Value) (hc : w.rangeAt b f cs) {d : TypeDesc} (hu : P.underlying ty = some d) (hd : d.isRow = true) (hi : (P.info? ty).map (·.size) = some cs.length)
    (hK : wpList P ops Q rest (a.put o.dst (.agg cs.toArray)) w) : wpList P ops Q (o :: rest) a w :=
  wpList_step fun K hK' => by
    rw [if_pos hw]
    exact wp_load_mid ty x ho b f hx cs d hc hu hd hi (hK' _ _ hK)
theorem block_range {w : World} {g : Nat} {t : TypeId} {L : List Value} (h : Block w g t L.toArray) : w.rangeAt g 0 L := by
  intro j v hj
  rw [h.cell, List.getElem?_toArray, Nat.zero_add, hj]

/-- One round of put. -/
def stepP (k : Int) (o : Option (List Int)) (s : Sl × Bool) (p : Int × Option (List Int)) : Sl × Bool :=
  if s.2 = false ∧ k ≤ p.1 then (if p.1 = k then (s.1 ++ [(k, o)], true) else (s.1 ++ [(k, o)] ++ [p], true)) else (if p.1 = k then s else (s.1 ++ [p], s.2))
def finP (k : Int) (o : Option (List Int)) (s : Sl × Bool) : Sl := if s.2 = true then s.1 else s.1 ++ [(k, o)]
theorem put_tail (k : Int) (o : Option (List Int)) : ∀ (l acc : Sl), (∀ p ∈ l, k < p.1) → l.foldl (stepP k o) (acc, true) = (acc ++ l, true)
  | [], acc, _ => by simp
  | p :: r, acc, h => by
    have hp := h p (by simp)
    rw [List.foldl_cons]
    have e : stepP k o (acc, true) p = (acc ++ [p], true) := by
      unfold stepP
      rw [if_neg (by simp), if_neg (by omega)]
    rw [e, put_tail k o r (acc ++ [p]) (fun x hx => h x (List.mem_cons_of_mem _ hx))]
    simp
theorem put_fold (k : Int) (o : Option (List Int)) : ∀ (l acc : Sl), Up l → finP k o (l.foldl (stepP k o) (acc, false)) = acc ++ putS l k o
  | [], acc, _ => rfl
  | p :: r, acc, h => by
    obtain ⟨j, u⟩ := p
    obtain ⟨h1, h2⟩ := List.pairwise_cons.1 h
    rw [List.foldl_cons]
    unfold putS
    by_cases c1 : k < j
    · have e : stepP k o (acc, false) (j, u) = (acc ++ [(k, o)] ++ [(j, u)], true) := by
        unfold stepP
        rw [if_pos ⟨rfl, by show k ≤ j; omega⟩, if_neg (by show ¬ j = k; omega)]
      rw [e, put_tail k o r _ (fun x hx => by have : j < x.1 := h1 x hx; omega), if_pos c1]
      unfold finP
      simp
    · by_cases c2 : k = j
      · subst c2
        have e : stepP k o (acc, false) (k, u) = (acc ++ [(k, o)], true) := by
          unfold stepP
          rw [if_pos ⟨rfl, Int.le_refl _⟩, if_pos rfl]
        rw [e, put_tail k o r _ (fun x hx => by have : k < x.1 := h1 x hx; omega), if_neg c1, if_pos rfl]
        unfold finP
        simp
      · have e : stepP k o (acc, false) (j, u) = (acc ++ [(j, u)], false) := by
          unfold stepP
          rw [if_neg (by rintro ⟨_, hh⟩; have : k ≤ j := hh; omega), if_neg (by show ¬ j = k; omega)]
        rw [e, put_fold k o r _ h2, if_neg c1, if_neg c2]
        simp
theorem stepP_len (k : Int) (o : Option (List Int)) : ∀ (l : Sl) (s : Sl × Bool), (l.foldl (stepP k o) s).1.length ≤ s.1.length + 2 * l.length
  | [], s => by simp
  | p :: r, s => by
    rw [List.foldl_cons]
    have := stepP_len k o r (stepP k o s p)
    have e : (stepP k o s p).1.length ≤ s.1.length + 2 := by
      unfold stepP
      split
      · split <;> simp
      · split <;> simp
    rw [List.length_cons]
    omega
def putA (l : Sl) (k : Int) (o : Option (List Int)) (j : Nat) : Sl × Bool := (l.take j).foldl (stepP k o) ([], false)
theorem putA_next (l : Sl) (k : Int) (o : Option (List Int)) (j : Nat) (h : j < l.length) : putA l k o (j + 1) = stepP k o (putA l k o j) (l.getD j (0, none)) := by
  unfold putA
  rw [List.take_succ_eq_append_getElem h, List.foldl_append]
  simp [List.getD, List.getElem?_eq_getElem h]
theorem putA_len (l : Sl) (k : Int) (o : Option (List Int)) (j : Nat) : (putA l k o j).1.length ≤ 2 * l.length := by
  have := stepP_len k o (l.take j) ([], false)
  have := List.length_take_le j l
  unfold putA
  simp at *
  omega

def GivesF (l : Sl) (w : World) (e : Ending) (w' : World) : Prop := ∃ v, e = .returned v ∧ OwnF w' w.heap.size v l ∧ Below w.heap.size w w'

set_option maxRecDepth 100000 in
set_option maxHeartbeats 6400000 in
theorem put_any (A : Option Addr) (l : Sl) (c : Nat) (k : Int) (o : Option (List Int)) (w : World) (hl : l.length ≤ 10000000) (hu : Up l) (hr : HoldsF w w.heap.size A l) :
    Calls Tryd.prog 44 #[.slice A l.length c, .agg (cellsF (k, o)).toArray] w (GivesF (putS l k o) w) := by
  have HF : Hid (finP k o (putA l k o l.length) = putS l k o) := Lib.hid (by have := put_fold k o l [] hu; unfold putA; rw [List.take_length, this]; rfl)
  have HA := Lib.hid (fun j (h : j < l.length) => putA_next l k o j h)
  have HL := Lib.hid (fun j => putA_len l k o j)
  have H0 : Hid (putA l k o 0 = ([], false)) := Lib.hid rfl
  generalize putS l k o = R at *
  have X1 : Block (w.alloc (.cells (cellsF (k, o)).toArray 95)) w.heap.size 95 (cellsF (k, o)).toArray := Block.new w _ _
  have B1 : Below w.heap.size w (w.alloc (.cells (cellsF (k, o)).toArray 95)) := (Below.refl _ _).alloc (Nat.le_refl _) _
  have hr1 := hr.below B1
  have z1 : (w.alloc (.cells (cellsF (k, o)).toArray 95)).heap.size = w.heap.size + 1 := by simp
  generalize hW : w.alloc (.cells (cellsF (k, o)).toArray 95) = w1 at *
  have own0 : OwnF (w1.alloc (.cells #[] 95)) (w.heap.size + 1) (.slice (some ⟨w1.heap.size, 0, none⟩) 0 0) [] := OwnF.empty w1 (by omega)
  have C0 : Below (w.heap.size + 1) w1 (w1.alloc (.cells #[] 95)) := (Below.refl _ _).alloc (by omega) _
  have Hz := Lib.hid z1
  have Hle : w.heap.size + 1 ≤ w1.heap.size := by omega
  clear z1 hr hu
  go_enter Tryd.func44, Tryd.ntmps44
  go_wp2
  go_loopw [5, 6, 11] (fun v d i wz => ∃ j : Nat, j ≤ l.length ∧ i = .int .i64 j ∧ d = .bool (putA l k o j).2 ∧ OwnF wz (w.heap.size + 1) v (putA l k o j).1 ∧ Below (w.heap.size + 1) w1 wz) (fun _ _ i _ => l.length - (intOf i).toNat)
  case atStart => exact ⟨0, Nat.zero_le _, rfl, by rw [H0.out], by rw [H0.out]; first | exact own0 | (simpa using own0), by first | exact C0 | (simpa using C0)⟩
  case round =>
    clear own0 C0
    obtain ⟨j, hj, rfl, rfl, own, C⟩ := hrel
    have hlen := HL.out j
    have X := X1.below C (by omega)
    have hk0 : wr.cell? ⟨w.heap.size, 0, none⟩ = some (.int .i64 k) := X.cell 0
    by_cases hlt : j < l.length
    · obtain ⟨b, off, rfl, hb, hc⟩ := hr1 (by omega)
      have hp : l[j]? = some (l.getD j (0, none)) := by simp [List.getD, List.getElem?_eq_getElem hlt]
      have hcw : wr.rangeAt b (off + j * 3) (cellsF (l.getD j (0, none))) := fun i u hu => (C.cell (p := ⟨b, _, none⟩) (by show b < w.heap.size + 1; omega)).trans (hc j _ hp i u hu)
      have hcj : wr.cell? ⟨b, off + j * 3, none⟩ = some (.int .i64 (l.getD j (0, none)).1) := hcw 0 _ rfl
      have hnext := Lib.hid (HA.out j hlt)
      have hr2 := Lib.hid (fun (wz : World) (h : Below (w.heap.size + 1) w1 wz) => (fun i u hu => (h.cell (p := ⟨b, _, none⟩) (by show b < w.heap.size + 1; omega)).trans (hc j _ hp i u hu) : wz.rangeAt b (off + j * 3) (cellsF (l.getD j (0, none)))))
      clear hc hp HA HL
      generalize hq : l.getD j (0, none) = q at *
      clear hq
      obtain ⟨out, d, hst⟩ : ∃ out d, putA l k o j = (out, d) := ⟨_, _, rfl⟩
      rw [hst] at own hlen hnext
      simp only [hst]
      clear hst
      have d1 : decide ((j : Int) < (l.length : Int)) = true := decide_eq_true (by omega)
      have d2 : decide (j < l.length) = true := decide_eq_true hlt
      have HB := Lib.hid C
      have hxr := Lib.hid (fun (wz : World) (h : Below (w.heap.size + 1) w1 wz) => block_range (L := cellsF (k, o)) (X1.below h (by omega)))
      simp only at own hlen
      clear C X
      by_cases ht : d = false ∧ k ≤ q.1
      · obtain ⟨rfl, hle⟩ := ht
        have hd3 : decide (k ≤ q.1) = true := decide_eq_true hle
        by_cases he : q.1 = k
        · have he1 : (q.1 != k) = false := by simpa using he
          have he2 : (q.1 == k) = true := by simpa using he
          have HS : Hid (putA l k o (j + 1) = (out ++ [(k, o)], true)) := Lib.hid (by rw [hnext.out]; unfold stepP; rw [if_pos ⟨rfl, hle⟩, if_pos he])
          clear he hnext
          go_wp2_with fail
          go_quiet (fail)
          have C4 : Below (w.heap.size + 1) w1 (wr.drewN nq) := below_draws HB.out _
          have own4 := own.drewN nq
          go_wp2_with (first
            | (have _t := own4; refine wpList_load_midV (by rfl) _ _ rfl w.heap.size 0 rfl [.int .i64 k, .string (strB o), .bool o.isNone] (hxr.out _ C4) Tryd.underlying95 rfl (by rfl) ?_)
            | (have _t := own4; at_builtin; refine wpList_append_F rfl _ _ rfl (k, o) own4 rfl rfl (by omega) (by have := C4.size; omega) ?_; clear _t; intro v5 w5 own5 b5; have C5 := C4.trans b5; have m0 : w5.cell? ⟨b, off + j * 3, none⟩ = some (.int .i64 q.1) := hr2.out w5 C5 0 _ rfl; have m1 : w5.cell? ⟨w.heap.size, 0, none⟩ = some (.int .i64 k) := hxr.out w5 C5 0 _ rfl; clear own4 own hk0 hcj))
          go_quiet (fail)
          have C6 : Below (w.heap.size + 1) w1 (w5.drewN nq) := below_draws C5 _
          have own6 := own5.drewN nq
          go_wp2_with fail
          go_roundw
          case rel => exact ⟨j + 1, hlt, by go_num, by rw [HS.out], by rw [HS.out]; exact own6, C6⟩
          case measure => simp [intOf] <;> omega
        · have he1 : (q.1 != k) = true := by simpa using he
          have he2 : (q.1 == k) = false := by simpa using he
          have HS : Hid (putA l k o (j + 1) = (out ++ [(k, o)] ++ [q], true)) := Lib.hid (by rw [hnext.out]; unfold stepP; rw [if_pos ⟨rfl, hle⟩, if_neg he])
          clear he hnext
          go_wp2_with fail
          go_quiet (fail)
          have C4 : Below (w.heap.size + 1) w1 (wr.drewN nq) := below_draws HB.out _
          have own4 := own.drewN nq
          go_wp2_with (first
            | (have _t := own4; refine wpList_load_midV (by rfl) _ _ rfl w.heap.size 0 rfl [.int .i64 k, .string (strB o), .bool o.isNone] (hxr.out _ C4) Tryd.underlying95 rfl (by rfl) ?_)
            | (have _t := own4; at_builtin; refine wpList_append_F rfl _ _ rfl (k, o) own4 rfl rfl (by omega) (by have := C4.size; omega) ?_; clear _t; intro v5 w5 own5 b5; have C5 := C4.trans b5; have m0 : w5.cell? ⟨b, off + j * 3, none⟩ = some (.int .i64 q.1) := hr2.out w5 C5 0 _ rfl; have m1 : w5.cell? ⟨w.heap.size, 0, none⟩ = some (.int .i64 k) := hxr.out w5 C5 0 _ rfl; clear own4 own hk0 hcj))
          go_quiet (fail)
          have C6 : Below (w.heap.size + 1) w1 (w5.drewN nq) := below_draws C5 _
          have own6 := own5.drewN nq
          generalize w5.drewN nq = w6 at *
          go_wp2_with (first
            | (have _t := own6; refine wpList_load_midV (by rfl) _ _ rfl b (off + j * 3) rfl [.int .i64 q.1, .string (strB q.2), .bool q.2.isNone] (hr2.out _ C6) Tryd.underlying95 rfl (by rfl) ?_)
            | (have _t := own6; at_builtin; refine wpList_append_F rfl _ _ rfl q own6 rfl rfl (by first | omega | (simp only [List.length_append, List.length_cons, List.length_nil]; omega)) (by have := C6.size; omega) ?_; clear _t; intro v7 w7 own7 b7; have C7 := C6.trans b7; clear own6))
          go_roundw
          case rel => exact ⟨j + 1, hlt, by go_num, by rw [HS.out], by rw [HS.out]; exact own7, C7⟩
          case measure => simp [intOf] <;> omega
      · cases d with
        | true =>
          by_cases he : q.1 = k
          · have he1 : (q.1 != k) = false := by simpa using he
            have he2 : (q.1 == k) = true := by simpa using he
            have HS : Hid (putA l k o (j + 1) = (out, true)) := Lib.hid (by rw [hnext.out]; unfold stepP; rw [if_neg (by simp), if_pos he])
            clear he hnext
            go_wp2_with fail
            go_quiet (fail)
            have m0 : (wr.drewN nq).cell? ⟨b, off + j * 3, none⟩ = some (.int .i64 q.1) := hr2.out _ (below_draws HB.out nq) 0 _ rfl
            have m1 : (wr.drewN nq).cell? ⟨w.heap.size, 0, none⟩ = some (.int .i64 k) := hxr.out _ (below_draws HB.out nq) 0 _ rfl
            have own5 := own.drewN nq
            have C5 : Below (w.heap.size + 1) w1 (wr.drewN nq) := below_draws HB.out _
            generalize wr.drewN nq = w5 at *
            go_wp2_with fail
            go_quiet (fail)
            have C6 : Below (w.heap.size + 1) w1 (w5.drewN nq) := below_draws C5 _
            have own6 := own5.drewN nq
            go_wp2_with fail
            go_roundw
            case rel => exact ⟨j + 1, hlt, by go_num, by rw [HS.out], by rw [HS.out]; exact own6, C6⟩
            case measure => simp [intOf] <;> omega
          · have he1 : (q.1 != k) = true := by simpa using he
            have he2 : (q.1 == k) = false := by simpa using he
            have HS : Hid (putA l k o (j + 1) = (out ++ [q], true)) := Lib.hid (by rw [hnext.out]; unfold stepP; rw [if_neg (by simp), if_neg he])
            clear he hnext
            go_wp2_with fail
            go_quiet (fail)
            have m0 : (wr.drewN nq).cell? ⟨b, off + j * 3, none⟩ = some (.int .i64 q.1) := hr2.out _ (below_draws HB.out nq) 0 _ rfl
            have m1 : (wr.drewN nq).cell? ⟨w.heap.size, 0, none⟩ = some (.int .i64 k) := hxr.out _ (below_draws HB.out nq) 0 _ rfl
            have own5 := own.drewN nq
            have C5 : Below (w.heap.size + 1) w1 (wr.drewN nq) := below_draws HB.out _
            generalize wr.drewN nq = w5 at *
            go_wp2_with fail
            go_quiet (fail)
            have C6 : Below (w.heap.size + 1) w1 (w5.drewN nq) := below_draws C5 _
            have own6 := own5.drewN nq
            generalize w5.drewN nq = w6 at *
            go_wp2_with (first
              | (have _t := own6; refine wpList_load_midV (by rfl) _ _ rfl b (off + j * 3) rfl [.int .i64 q.1, .string (strB q.2), .bool q.2.isNone] (hr2.out _ C6) Tryd.underlying95 rfl (by rfl) ?_)
              | (have _t := own6; at_builtin; refine wpList_append_F rfl _ _ rfl q own6 rfl rfl (by first | omega | (simp only [List.length_append, List.length_cons, List.length_nil]; omega)) (by have := C6.size; omega) ?_; clear _t; intro v7 w7 own7 b7; have C7 := C6.trans b7; clear own6))
            go_roundw
            case rel => exact ⟨j + 1, hlt, by go_num, by rw [HS.out], by rw [HS.out]; exact own7, C7⟩
            case measure => simp [intOf] <;> omega
        | false =>
          have hle : ¬ k ≤ q.1 := fun h => ht ⟨rfl, h⟩
          have hd3 : decide (k ≤ q.1) = false := decide_eq_false hle
          have he : ¬ q.1 = k := by omega
          have he1 : (q.1 != k) = true := by simpa using he
          have he2 : (q.1 == k) = false := by simpa using he
          have HS : Hid (putA l k o (j + 1) = (out ++ [q], false)) := Lib.hid (by rw [hnext.out]; unfold stepP; rw [if_neg (by rintro ⟨_, h⟩; exact hle h), if_neg he])
          clear he hnext
          go_wp2_with fail
          go_quiet (fail)
          have m0 : (wr.drewN nq).cell? ⟨b, off + j * 3, none⟩ = some (.int .i64 q.1) := hr2.out _ (below_draws HB.out nq) 0 _ rfl
          have m1 : (wr.drewN nq).cell? ⟨w.heap.size, 0, none⟩ = some (.int .i64 k) := hxr.out _ (below_draws HB.out nq) 0 _ rfl
          have own5 := own.drewN nq
          have C5 : Below (w.heap.size + 1) w1 (wr.drewN nq) := below_draws HB.out _
          generalize wr.drewN nq = w5 at *
          go_wp2_with fail
          go_quiet (fail)
          have C6 : Below (w.heap.size + 1) w1 (w5.drewN nq) := below_draws C5 _
          have own6 := own5.drewN nq
          generalize w5.drewN nq = w6 at *
          go_wp2_with (first
            | (have _t := own6; refine wpList_load_midV (by rfl) _ _ rfl b (off + j * 3) rfl [.int .i64 q.1, .string (strB q.2), .bool q.2.isNone] (hr2.out _ C6) Tryd.underlying95 rfl (by rfl) ?_)
            | (have _t := own6; at_builtin; refine wpList_append_F rfl _ _ rfl q own6 rfl rfl (by first | omega | (simp only [List.length_append, List.length_cons, List.length_nil]; omega)) (by have := C6.size; omega) ?_; clear _t; intro v7 w7 own7 b7; have C7 := C6.trans b7; clear own6))
          go_roundw
          case rel => exact ⟨j + 1, hlt, by go_num, by rw [HS.out], by rw [HS.out]; exact own7, C7⟩
          case measure => simp [intOf] <;> omega
    · obtain rfl : j = l.length := by omega
      have d1 : decide ((l.length : Int) < (l.length : Int)) = false := decide_eq_false (by omega)
      have d2 : decide (l.length < l.length) = false := decide_eq_false (by omega)
      have hX := block_range (L := [.int .i64 k, .string (strB o), .bool o.isNone]) X
      obtain ⟨out, d, hst⟩ : ∃ out d, putA l k o l.length = (out, d) := ⟨_, _, rfl⟩
      rw [hst] at own hlen HF
      simp only [hst]
      clear hst
      simp only at own hlen
      cases d with
      | true =>
        have hR : out = R := HF.out
        have HR := Lib.hid hR
        clear hR
        go_wp2_with fail
        go_ret
        exact ⟨_, rfl, by rw [← HR.out]; exact own.mono (by omega), B1.trans (C.mono (by omega))⟩
      | false =>
        have hR : out ++ [(k, o)] = R := HF.out
        have HR := Lib.hid hR
        clear hR
        go_wp2_with (first
          | (have _t := own; refine wpList_load_midV (by rfl) _ _ rfl w.heap.size 0 rfl [.int .i64 k, .string (strB o), .bool o.isNone] hX Tryd.underlying95 rfl (by rfl) ?_)
          | (have _t := own; at_builtin; refine wpList_append_F rfl _ _ rfl (k, o) own rfl rfl (by omega) (by have := C.size; omega) ?_; clear _t; intro v5 w5 own5 b5; have C5 := C.trans b5; clear own))
        go_ret
        exact ⟨_, rfl, by rw [← HR.out]; exact own5.mono (by omega), B1.trans (C5.mono (by omega))⟩
end Go.Proofs.YtpnodocjpedcmaaDoor.Sec

namespace Go.Proofs.YtpnodocjpedcmaaDoor.Sec
open Go.ChangeShapes Go.WideShapes Go.ChangeAt Go.RowKit Go.Proofs.YtpnodocjpedcmaaDoor.Kit

def dCells (Ak : Option Addr) (ck : Nat) (Aw : Option Addr) (cw : Nat) (s : Dv) : Array Value :=
  #[.int .i64 s.size, .int .i64 s.count, .slice Ak s.kept.length ck, .slice Aw s.waits.length cw, .bool s.off, .int .i64 s.offs, .int .i64 s.fuse, .int .u64 s.wr]
/-- v is the document's device. -/
def RDv (w : World) (v : Value) (s : Dv) : Prop :=
  ∃ Ak ck Aw cw, v = .agg (dCells Ak ck Aw cw s) ∧ HoldsF w w.heap.size Ak s.kept ∧ HoldsF w w.heap.size Aw s.waits ∧ s.kept.length ≤ ck ∧ ck ≤ maxLen ∧ s.waits.length ≤ cw ∧ cw ≤ maxLen
theorem RDv.below {w w' : World} {v : Value} {s : Dv} (h : RDv w v s) (hb : Below w.heap.size w w') : RDv w' v s := by
  obtain ⟨Ak, ck, Aw, cw, e, h1, h2, r⟩ := h
  exact ⟨Ak, ck, Aw, cw, e, (h1.below hb).more hb.size, (h2.below hb).more hb.size, r⟩
def GivesD (s : Dv) (w : World) (e : Ending) (w' : World) : Prop := ∃ v, e = .returned v ∧ RDv w' v s ∧ Below w.heap.size w w'
def GivesED (E : Int) (s : Dv) (w : World) (e : Ending) (w' : World) : Prop := ∃ v, e = .returned (.tuple #[.int .i64 E, v]) ∧ RDv w' v s ∧ Below w.heap.size w w'

/-- A whole block is stored over. -/
theorem wpList_store_blk {P : Program} {w : World} {ops : Array Oper} {rest : List Oper} {o : Oper} {a : Act} {Q : Exit → Act → World → Prop} (hgd : o.guard = none) (ty : TypeId) (x y : Operand) (ho : o.op = .store ty x y)
    {g : Nat} {t : TypeId} {cs : Array Value} {ds : List Value} (h : Block w g t cs) (hx : a.eval x = .pointer (some ⟨g, 0, none⟩)) (hy : a.eval y = .agg ds.toArray) (hl : ds.length = cs.size) (hi : (P.info? ty).map (·.size) = some ds.length) (hone : ∀ u ∈ ds, u.oneCell' = true)
    (hK : ∀ w', Block w' g t ds.toArray → w.grownBy w' (some g) → wpList P ops Q rest (a.put o.dst undef) w') : wpList P ops Q (o :: rest) a w := by
  refine wpList_store_mid hgd ty x y ho g 0 ds.toArray hx hy ?_ (by simpa using hi) (all_oneCell_toArray hone) ?_
  · intro j hj
    have hj' : j < cs.size := by simpa [hl] using hj
    exact ⟨by rw [Nat.zero_add, h.cell, Array.getElem?_eq_getElem hj']; rfl, by rw [Nat.zero_add]; exact h.frozen j⟩
  · refine hK _ ?_ (setCells_grown g _ 0 w)
    have := setCells_block ds 0 w _ h (by omega)
    have e : (cs.toList.take 0 ++ (ds ++ cs.toList.drop (0 + ds.length))).toArray = ds.toArray := by
      rw [List.drop_of_length_le (by simp [hl])]
      simp
    rw [e] at this
    simpa using this

def zD : Array Value := #[.int .i64 0, .int .i64 0, .slice none 0 0, .slice none 0 0, .bool false, .int .i64 0, .int .i64 0, .int .u64 0]
theorem dCells_one (Ak : Option Addr) (ck : Nat) (Aw : Option Addr) (cw : Nat) (s : Dv) : ∀ u ∈ (dCells Ak ck Aw cw s).toList, u.oneCell' = true := by
  intro u hu
  unfold dCells at hu
  simp only [List.mem_cons, List.not_mem_nil, or_false] at hu
  rcases hu with rfl | rfl | rfl | rfl | rfl | rfl | rfl | rfl <;> rfl
/-- No cell is a text. -/
def NoText (cs : Array Value) : Prop := ∀ (i : Nat) (x : ByteArray), cs[i]? ≠ some (.string x)
theorem noText_list {cs : Array Value} (h : ∀ u ∈ cs.toList, ∀ x : ByteArray, u ≠ .string x) : NoText cs := fun i x e => h _ (List.mem_of_getElem? (by rw [← Array.getElem?_toList] at e; exact e)) x rfl
theorem dCells_noText (Ak : Option Addr) (ck : Nat) (Aw : Option Addr) (cw : Nat) (s : Dv) : NoText (dCells Ak ck Aw cw s) := noText_list (by
  intro u hu x
  unfold dCells at hu
  simp only [List.mem_cons, List.not_mem_nil, or_false] at hu
  rcases hu with rfl | rfl | rfl | rfl | rfl | rfl | rfl | rfl <;> exact fun e => by cases e)
theorem zD_noText : NoText zD := noText_list (by
  intro u hu x
  unfold zD at hu
  simp only [List.mem_cons, List.not_mem_nil, or_false] at hu
  rcases hu with rfl | rfl | rfl | rfl | rfl | rfl | rfl | rfl <;> exact fun e => by cases e)
/-- Rows of sectors stay while a block without texts turns. -/
theorem HoldsF.kept {w w' : World} {A : Option Addr} {l : Sl} {g : Nat} {t : TypeId} {cs : Array Value} (h : HoldsF w w.heap.size A l) (X : Block w g t cs) (hcs : NoText cs) (hg : w.grownBy w' (some g)) : HoldsF w' w'.heap.size A l := by
  intro hx
  obtain ⟨b, off, e, hb, hc⟩ := h hx
  have hne : b ≠ g := by
    rintro rfl
    have h1 := hc 0 (l[0]'hx) (List.getElem?_eq_getElem hx) 1 _ rfl
    rw [X.cell] at h1
    exact hcs _ _ h1
  refine ⟨b, off, e, Nat.lt_of_lt_of_le hb hg.size, fun j p hj i u hu => ?_⟩
  exact (World.cell?_of_block (w := w) (a := ⟨b, _, none⟩) (hg.block b hb (fun e => hne (Option.some.inj e)))).trans (hc j p hj i u hu)
theorem RDv.kept {w w' : World} {v : Value} {s : Dv} {g : Nat} {t : TypeId} {cs : Array Value} (h : RDv w v s) (X : Block w g t cs) (hcs : NoText cs) (hg : w.grownBy w' (some g)) : RDv w' v s := by
  obtain ⟨Ak, ck, Aw, cw, e, h1, h2, r⟩ := h
  exact ⟨Ak, ck, Aw, cw, e, h1.kept X hcs hg, h2.kept X hcs hg, r⟩
theorem block_two (w : World) (o : Obj) (t : TypeId) (cs : Array Value) : Block ((w.alloc o).alloc (.cells cs t)) (w.heap.size + 1) t cs := by
  have := Block.new (w.alloc o) t cs
  rwa [show (w.alloc o).heap.size = w.heap.size + 1 by simp] at this
theorem below_two (w : World) (o p : Obj) : Below w.heap.size w ((w.alloc o).alloc p) := ((Below.refl _ _).alloc (Nat.le_refl _) _).alloc (by simp) _

set_option maxRecDepth 100000 in
set_option maxHeartbeats 1600000 in
theorem rnew_any (size count : Nat) (w : World) :
    Calls Tryd.prog 11 #[.int .i64 size, .int .i64 count] w (GivesD (Dv.new size count) w) := by
  go_enter Tryd.func11, Tryd.ntmps11
  go_wp2
  exact bodyPost_ret (v := .agg (dCells none 0 none 0 (Dv.new size count))) (results_cell_row rfl _ _ w.heap.size 31 _ (0, 0) _ rfl (Block.new w _ _) Tryd.underlying31 rfl (by kernel_rfl)) rfl
    ⟨_, rfl, ⟨none, 0, none, 0, rfl, HoldsF.nil, HoldsF.nil, Nat.le_refl _, Nat.zero_le _, Nat.le_refl _, Nat.zero_le _⟩, (Below.refl _ _).alloc (Nat.le_refl _) _⟩

set_option maxRecDepth 100000 in
set_option maxHeartbeats 1600000 in
theorem rfall_any (v : Value) (s : Dv) (w : World) (h : RDv w v s) (hb : 0 ≤ s.offs ∧ s.offs ≤ 1000000000) :
    Calls Tryd.prog 45 #[v] w (GivesD s.down w) := by
  obtain ⟨Ak, ck, Aw, cw, rfl, hk, hw, r⟩ := h
  have hB := fun o p => below_two w o p
  have HG := Lib.hid (fun (cs : Array Value) (o p : Obj) => (⟨(hk.below (hB o p)).more (hB o p).size, (hw.below (hB o p)).more (hB o p).size⟩ : _ ∧ _))
  have HR := Lib.hid r
  clear hB hk hw r
  unfold dCells Dv.down
  cases hoff : s.off with
  | true =>
    go_enter Tryd.func45, Tryd.ntmps45
    go_wp2
    refine bodyPost_ret (v := .agg (dCells Ak ck Aw cw { s with off := true })) (results_cell_row rfl _ _ (w.heap.size + 1) 31 _ (0, 0) _ rfl (block_two w _ _ _) Tryd.underlying31 rfl (by kernel_rfl)) rfl
      ⟨_, rfl, ⟨Ak, ck, Aw, cw, ?_, (HG.out #[] _ _).1, (HG.out #[] _ _).2, HR.out⟩, below_two w _ _⟩
    unfold dCells
    rw [hoff]
  | false =>
    go_enter Tryd.func45, Tryd.ntmps45
    go_wp2
    exact bodyPost_ret (v := .agg (dCells Ak ck Aw cw { s with off := true, offs := s.offs + 1 })) (results_cell_row rfl _ _ (w.heap.size + 1) 31 _ (0, 0) _ rfl (block_two w _ _ _) Tryd.underlying31 rfl (by kernel_rfl)) rfl
      ⟨_, rfl, ⟨Ak, ck, Aw, cw, rfl, (HG.out #[] _ _).1, (HG.out #[] _ _).2, HR.out⟩, below_two w _ _⟩

end Go.Proofs.YtpnodocjpedcmaaDoor.Sec

namespace Go.Proofs.YtpnodocjpedcmaaDoor.Sec
open Go.ChangeShapes Go.WideShapes Go.ChangeAt Go.RowKit Go.Proofs.YtpnodocjpedcmaaDoor.Kit

theorem find_no {A : Option Addr} {l : Sl} {c : Nat} {k : Int} {w : World} (hl : l.length ≤ 1000000000) (hr : HoldsF w w.heap.size A l) (hg : getS l k = none) :
    Calls Tryd.prog 80 #[.slice A l.length c, .int .i64 k] w fun e w' => e = .returned (.int .i64 (-1)) ∧ w = w' :=
  (find_any A l c k w hl hr).mono fun e w' ⟨h1, h2⟩ => by
    rw [hg] at h2
    exact ⟨h2, h1⟩
def FoundAt (l : Sl) (k : Int) (o : Option (List Int)) (w : World) (e : Ending) (w' : World) : Prop := ∃ i : Nat, l[i]? = some (k, o) ∧ e = .returned (.int .i64 i) ∧ w = w'
theorem find_yes {A : Option Addr} {l : Sl} {c : Nat} {k : Int} {o : Option (List Int)} {w : World} (hl : l.length ≤ 1000000000) (hr : HoldsF w w.heap.size A l) (hg : getS l k = some o) :
    Calls Tryd.prog 80 #[.slice A l.length c, .int .i64 k] w (FoundAt l k o w) :=
  (find_any A l c k w hl hr).mono fun e w' ⟨h1, h2⟩ => by
    rw [hg] at h2
    obtain ⟨i, h3, h4⟩ := h2
    exact ⟨i, h3, h4, h1⟩

def GivesS (zs : List Int) (E : Int) (w : World) (e : Ending) (w' : World) : Prop := e = .returned (.tuple #[.string (strOfNums zs), .int .i64 E]) ∧ Below w.heap.size w w'
theorem pos_of_get {l : Sl} {k : Int} {o : Option (List Int)} (h : getS l k = some o) : 0 < l.length := List.length_pos_of_mem (mem_getS h)
theorem str_nil : strOfNums [] = ⟨#[]⟩ := rfl
theorem len_few {n : Nat} (h : n < 1000000000) : n ≤ 1000000000 := by omega

set_option maxRecDepth 100000 in
set_option maxHeartbeats 6400000 in
theorem rread_any (v : Value) (s : Dv) (i : Int) (w : World) (h : RDv w v s) (hok : s.Ok) :
    Calls Tryd.prog 51 #[v, .int .i64 i] w (GivesS (s.read i).1 (s.read i).2 w) := by
  obtain ⟨Ak, ck, Aw, cw, rfl, hk, hw, r⟩ := h
  have hs2 := hok.s2
  have hwf := len_few (waits_few hok)
  have hkf := len_few (kept_few hok)
  have hwn := Lib.hid hok.wn
  have B1 := Lib.hid (fun o => (Below.refl w.heap.size w).alloc (Nat.le_refl _) o)
  have HS := Lib.hid str_nil
  unfold dCells Dv.read
  clear r
  cases hoff : s.off with
  | true =>
    rw [if_pos rfl]
    go_enter Tryd.func51, Tryd.ntmps51
    go_wp2_with fail
    go_ret2
    exact ⟨by rw [HS.out]; rfl, B1.out _⟩
  | false =>
    rw [if_neg (by decide)]
    by_cases hlo : i < 0
    · rw [if_pos (Or.inl hlo)]
      have d1 : decide (i < 0) = true := decide_eq_true hlo
      go_enter Tryd.func51, Tryd.ntmps51
      go_wp2_with fail
      go_ret2
      exact ⟨by rw [HS.out]; rfl, B1.out _⟩
    · have d1 : decide (i < 0) = false := decide_eq_false hlo
      by_cases hhi : (s.count : Int) ≤ i
      · rw [if_pos (Or.inr hhi)]
        have d2 : decide ((s.count : Int) ≤ i) = true := decide_eq_true hhi
        go_enter Tryd.func51, Tryd.ntmps51
        go_wp2_with fail
        go_ret2
        exact ⟨by rw [HS.out]; rfl, B1.out _⟩
      · have d2 : decide ((s.count : Int) ≤ i) = false := decide_eq_false hhi
        rw [if_neg (by omega)]
        -- the walk of a place that is there
        have hz := Lib.hid (fun o => show (w.alloc o).heap.size = w.heap.size + 1 by simp)
        have X1 := Lib.hid (Block.new w 31 #[.int .i64 s.size, .int .i64 s.count, .slice Ak s.kept.length ck, .slice Aw s.waits.length cw, .bool false, .int .i64 s.offs, .int .i64 s.fuse, .int .u64 s.wr])
        obtain ⟨Z, hZ⟩ : ∃ Z, strOfNums (List.replicate s.size 0) = Z := ⟨_, rfl⟩
        have HZ := Lib.hid hZ
        clear hlo hhi hoff
        cases hgw : getS s.waits i with
        | some o =>
          cases o with
          | none => exact absurd rfl (hwn.out _ (mem_getS hgw))
          | some xs =>
            cases hgk : getS s.kept i with
            | some o2 =>
              obtain ⟨bw, ow, rfl, hbw, hcw⟩ := hw (pos_of_get hgw)
              have hw : HoldsF w w.heap.size (some ⟨bw, ow, none⟩) s.waits := fun _ => ⟨bw, ow, rfl, hbw, hcw⟩
              obtain ⟨bk, ok, rfl, hbk, hck⟩ := hk (pos_of_get hgk)
              have hk : HoldsF w w.heap.size (some ⟨bk, ok, none⟩) s.kept := fun _ => ⟨bk, ok, rfl, hbk, hck⟩
              have GW := Lib.hid (fun W (hB : Below w.heap.size w W) => find_yes (c := cw) hwf ((hw.below hB).more hB.size) hgw)
              have GK := Lib.hid (fun W (hB : Below w.heap.size w W) => find_yes (c := ck) hkf ((hk.below hB).more hB.size) hgk)
              have HCW := Lib.hid (fun W (hB : Below w.heap.size w W) j q (hj : s.waits[j]? = some q) => (fun i u hu => (hB.cell (p := ⟨bw, _, none⟩) hbw).trans (hcw j q hj i u hu) : W.rangeAt bw (ow + j * 3) (cellsF q)))
              have HCK := Lib.hid (fun W (hB : Below w.heap.size w W) j q (hj : s.kept[j]? = some q) => (fun i u hu => (hB.cell (p := ⟨bk, _, none⟩) hbk).trans (hck j q hj i u hu) : W.rangeAt bk (ok + j * 3) (cellsF q)))
              clear hw hk hgw hgk hcw hbw hck hbk
              go_enter Tryd.func51, Tryd.ntmps51
              go_wp2_with (first
                | (refine wpList_make_ints _ rfl _ _ _ rfl elem8 s.size s.size rfl rfl rfl rfl (Nat.le_refl _) (by omega) ?_; intro w5 own5 hb5 hl5; obtain ⟨A5, c5, he5, _, _, hh5⟩ := own5.opened; have kc := conv_bytes (P := Tryd.prog) Tryd.underlying22 Tryd.underlying5 Tryd.underlying9 w5 A5 (List.replicate s.size 0) c5 _ hh5; rw [← he5, hZ, hz.out] at kc; clear he5 hh5 own5; have B5 := (B1.out _).trans (hb5.mono (by simp)); have X6 := (X1.out.below hb5 (by simp)).alloc (.cells #[.int .i64 0, .string Z, .bool false] 95); have y2 := X6.cell 2; have y3 := X6.cell 3; have B6 := B5.alloc B5.size (.cells #[.int .i64 0, .string Z, .bool false] 95); clear X6 hb5)
                | (go_at_call 80; (with_reducible refine (GW.out _ B6).mono ?_); rintro e w7 ⟨jw, hjw, rfl, rfl⟩; have hjl := (List.getElem?_eq_some_iff.1 hjw).1; have ldw := HCW.out _ B6 jw _ hjw; clear hjw)
                | (go_at_call 80; (with_reducible refine (GK.out _ B6).mono ?_); rintro e w7 ⟨jk, hjk, rfl, rfl⟩; have hkl := (List.getElem?_eq_some_iff.1 hjk).1; have ldk := HCK.out _ B6 jk _ hjk; clear hjk)
                | (have _t := ldw; refine wpList_load_midV (by rfl) _ _ rfl bw (ow + jw * 3) rfl [.int .i64 i, .string (strB (some xs)), .bool false] ldw Tryd.underlying95 rfl (by rfl) ?_))
              go_ret2
              exact ⟨rfl, B5.alloc B5.size _⟩
            | none =>
              obtain ⟨bw, ow, rfl, hbw, hcw⟩ := hw (pos_of_get hgw)
              have hw : HoldsF w w.heap.size (some ⟨bw, ow, none⟩) s.waits := fun _ => ⟨bw, ow, rfl, hbw, hcw⟩
              have GW := Lib.hid (fun W (hB : Below w.heap.size w W) => find_yes (c := cw) hwf ((hw.below hB).more hB.size) hgw)
              have GK := Lib.hid (fun W (hB : Below w.heap.size w W) => find_no (c := ck) hkf ((hk.below hB).more hB.size) hgk)
              have HCW := Lib.hid (fun W (hB : Below w.heap.size w W) j q (hj : s.waits[j]? = some q) => (fun i u hu => (hB.cell (p := ⟨bw, _, none⟩) hbw).trans (hcw j q hj i u hu) : W.rangeAt bw (ow + j * 3) (cellsF q)))
              clear hw hk hgw hgk hcw hbw
              go_enter Tryd.func51, Tryd.ntmps51
              go_wp2_with (first
                | (refine wpList_make_ints _ rfl _ _ _ rfl elem8 s.size s.size rfl rfl rfl rfl (Nat.le_refl _) (by omega) ?_; intro w5 own5 hb5 hl5; obtain ⟨A5, c5, he5, _, _, hh5⟩ := own5.opened; have kc := conv_bytes (P := Tryd.prog) Tryd.underlying22 Tryd.underlying5 Tryd.underlying9 w5 A5 (List.replicate s.size 0) c5 _ hh5; rw [← he5, hZ, hz.out] at kc; clear he5 hh5 own5; have B5 := (B1.out _).trans (hb5.mono (by simp)); have X6 := (X1.out.below hb5 (by simp)).alloc (.cells #[.int .i64 0, .string Z, .bool false] 95); have y2 := X6.cell 2; have y3 := X6.cell 3; have B6 := B5.alloc B5.size (.cells #[.int .i64 0, .string Z, .bool false] 95); clear X6 hb5)
                | (go_at_call 80; (with_reducible refine (GW.out _ B6).mono ?_); rintro e w7 ⟨jw, hjw, rfl, rfl⟩; have hjl := (List.getElem?_eq_some_iff.1 hjw).1; have ldw := HCW.out _ B6 jw _ hjw; clear hjw)
                | (go_at_call 80; (with_reducible refine (GK.out _ B6).mono ?_); rintro e w7 ⟨rfl, rfl⟩)
                | (have _t := ldw; refine wpList_load_midV (by rfl) _ _ rfl bw (ow + jw * 3) rfl [.int .i64 i, .string (strB (some xs)), .bool false] ldw Tryd.underlying95 rfl (by rfl) ?_))
              go_ret2
              exact ⟨rfl, B5.alloc B5.size _⟩
        | none =>
          cases hgk : getS s.kept i with
          | none =>
            have GW := Lib.hid (fun W (hB : Below w.heap.size w W) => find_no (c := cw) hwf ((hw.below hB).more hB.size) hgw)
            have GK := Lib.hid (fun W (hB : Below w.heap.size w W) => find_no (c := ck) hkf ((hk.below hB).more hB.size) hgk)
            clear hw hk hgw hgk
            go_enter Tryd.func51, Tryd.ntmps51
            go_wp2_with (first
              | (refine wpList_make_ints _ rfl _ _ _ rfl elem8 s.size s.size rfl rfl rfl rfl (Nat.le_refl _) (by omega) ?_; intro w5 own5 hb5 hl5; obtain ⟨A5, c5, he5, _, _, hh5⟩ := own5.opened; have kc := conv_bytes (P := Tryd.prog) Tryd.underlying22 Tryd.underlying5 Tryd.underlying9 w5 A5 (List.replicate s.size 0) c5 _ hh5; rw [← he5, hZ, hz.out] at kc; clear he5 hh5 own5; have B5 := (B1.out _).trans (hb5.mono (by simp)); have X6 := (X1.out.below hb5 (by simp)).alloc (.cells #[.int .i64 0, .string Z, .bool false] 95); have y2 := X6.cell 2; have y3 := X6.cell 3; have B6 := B5.alloc B5.size (.cells #[.int .i64 0, .string Z, .bool false] 95); clear X6 hb5)
              | (go_at_call 80; (with_reducible refine (GW.out _ B6).mono ?_); rintro e w7 ⟨rfl, rfl⟩)
              | (go_at_call 80; (with_reducible refine (GK.out _ B6).mono ?_); rintro e w7 ⟨rfl, rfl⟩))
            go_ret2
            exact ⟨by rw [HZ.out]; rfl, B6⟩
          | some o =>
            cases o with
            | none =>
              obtain ⟨bk, ok, rfl, hbk, hck⟩ := hk (pos_of_get hgk)
              have hk : HoldsF w w.heap.size (some ⟨bk, ok, none⟩) s.kept := fun _ => ⟨bk, ok, rfl, hbk, hck⟩
              have GW := Lib.hid (fun W (hB : Below w.heap.size w W) => find_no (c := cw) hwf ((hw.below hB).more hB.size) hgw)
              have GK := Lib.hid (fun W (hB : Below w.heap.size w W) => find_yes (c := ck) hkf ((hk.below hB).more hB.size) hgk)
              have HCK := Lib.hid (fun W (hB : Below w.heap.size w W) j q (hj : s.kept[j]? = some q) => (fun i u hu => (hB.cell (p := ⟨bk, _, none⟩) hbk).trans (hck j q hj i u hu) : W.rangeAt bk (ok + j * 3) (cellsF q)))
              clear hw hk hgw hgk hck hbk
              go_enter Tryd.func51, Tryd.ntmps51
              go_wp2_with (first
                | (refine wpList_make_ints _ rfl _ _ _ rfl elem8 s.size s.size rfl rfl rfl rfl (Nat.le_refl _) (by omega) ?_; intro w5 own5 hb5 hl5; obtain ⟨A5, c5, he5, _, _, hh5⟩ := own5.opened; have kc := conv_bytes (P := Tryd.prog) Tryd.underlying22 Tryd.underlying5 Tryd.underlying9 w5 A5 (List.replicate s.size 0) c5 _ hh5; rw [← he5, hZ, hz.out] at kc; clear he5 hh5 own5; have B5 := (B1.out _).trans (hb5.mono (by simp)); have X6 := (X1.out.below hb5 (by simp)).alloc (.cells #[.int .i64 0, .string Z, .bool false] 95); have y2 := X6.cell 2; have y3 := X6.cell 3; have B6 := B5.alloc B5.size (.cells #[.int .i64 0, .string Z, .bool false] 95); clear X6 hb5)
                | (go_at_call 80; (with_reducible refine (GW.out _ B6).mono ?_); rintro e w7 ⟨rfl, rfl⟩)
                | (go_at_call 80; (with_reducible refine (GK.out _ B6).mono ?_); rintro e w7 ⟨jk, hjk, rfl, rfl⟩; have hkl := (List.getElem?_eq_some_iff.1 hjk).1; have ldk := HCK.out _ B6 jk _ hjk; clear hjk)
                | (have _t := ldk; refine wpList_load_midV (by rfl) _ _ rfl bk (ok + jk * 3) rfl [.int .i64 i, .string (strB none), .bool true] ldk Tryd.underlying95 rfl (by rfl) ?_))
              go_ret2
              exact ⟨by rw [HS.out]; rfl, B5.alloc B5.size _⟩
            | some xs =>
              obtain ⟨bk, ok, rfl, hbk, hck⟩ := hk (pos_of_get hgk)
              have hk : HoldsF w w.heap.size (some ⟨bk, ok, none⟩) s.kept := fun _ => ⟨bk, ok, rfl, hbk, hck⟩
              have GW := Lib.hid (fun W (hB : Below w.heap.size w W) => find_no (c := cw) hwf ((hw.below hB).more hB.size) hgw)
              have GK := Lib.hid (fun W (hB : Below w.heap.size w W) => find_yes (c := ck) hkf ((hk.below hB).more hB.size) hgk)
              have HCK := Lib.hid (fun W (hB : Below w.heap.size w W) j q (hj : s.kept[j]? = some q) => (fun i u hu => (hB.cell (p := ⟨bk, _, none⟩) hbk).trans (hck j q hj i u hu) : W.rangeAt bk (ok + j * 3) (cellsF q)))
              clear hw hk hgw hgk hck hbk
              go_enter Tryd.func51, Tryd.ntmps51
              go_wp2_with (first
                | (refine wpList_make_ints _ rfl _ _ _ rfl elem8 s.size s.size rfl rfl rfl rfl (Nat.le_refl _) (by omega) ?_; intro w5 own5 hb5 hl5; obtain ⟨A5, c5, he5, _, _, hh5⟩ := own5.opened; have kc := conv_bytes (P := Tryd.prog) Tryd.underlying22 Tryd.underlying5 Tryd.underlying9 w5 A5 (List.replicate s.size 0) c5 _ hh5; rw [← he5, hZ, hz.out] at kc; clear he5 hh5 own5; have B5 := (B1.out _).trans (hb5.mono (by simp)); have X6 := (X1.out.below hb5 (by simp)).alloc (.cells #[.int .i64 0, .string Z, .bool false] 95); have y2 := X6.cell 2; have y3 := X6.cell 3; have B6 := B5.alloc B5.size (.cells #[.int .i64 0, .string Z, .bool false] 95); clear X6 hb5)
                | (go_at_call 80; (with_reducible refine (GW.out _ B6).mono ?_); rintro e w7 ⟨rfl, rfl⟩)
                | (go_at_call 80; (with_reducible refine (GK.out _ B6).mono ?_); rintro e w7 ⟨jk, hjk, rfl, rfl⟩; have hkl := (List.getElem?_eq_some_iff.1 hjk).1; have ldk := HCK.out _ B6 jk _ hjk; clear hjk)
                | (have _t := ldk; refine wpList_load_midV (by rfl) _ _ rfl bk (ok + jk * 3) rfl [.int .i64 i, .string (strB (some xs)), .bool false] ldk Tryd.underlying95 rfl (by rfl) ?_))
              go_ret2
              exact ⟨rfl, B5.alloc B5.size _⟩
end Go.Proofs.YtpnodocjpedcmaaDoor.Sec

namespace Go.Proofs.YtpnodocjpedcmaaDoor.Sha
open Go.ChangeShapes Go.WideShapes Go.ChangeAt Go.RowKit Go.Proofs.YtpnodocjpedcmaaDoor.Kit

/-- x with its bits moved n places down, round the end. -/
def rot (x : Int) (n : Nat) : Int := bits BinOp.or .u32 (x * 2 ^ (32 - n) % 4294967296) (x / 2 ^ n)

theorem low_five : ∀ n : Nat, n < 32 → 1 ≤ n → bits BinOp.and .u64 (IntKind.u64.wrap (-(n : Int))) 31 = ((32 - n : Nat) : Int) := by decide +kernel

set_option maxHeartbeats 1600000 in
theorem rotate_any (x : Int) (n : Nat) (w : World) (hx : 0 ≤ x ∧ x ≤ 4294967295) (hn : 1 ≤ n ∧ n ≤ 31) :
    Calls Tryd.prog 117 #[.int .u32 x, .int .i64 (-(n : Int))] w fun e w' => e = .returned (.int .u32 (rot x n)) ∧ w = w' := by
  have k0 := low_five n (by omega) hn.1
  have hr : rot x n = bits BinOp.or .u32 (x * 2 ^ (32 - n) % 4294967296) (x / 2 ^ n) := rfl
  obtain ⟨m, hm⟩ : ∃ m, 32 - n = m := ⟨_, rfl⟩
  rw [hm] at k0 hr
  have hs : (32 : Int) - (m : Int) = (n : Int) := by omega
  have hm2 : m ≤ 31 := by omega
  go_enter Tryd.func117, Tryd.ntmps117
  go_wp2_with fail
  go_ret
  exact ⟨by rw [hr]; rfl, rfl⟩

set_option maxHeartbeats 1600000 in
theorem turned_any (x N : Int) (n : Nat) (w : World) (hN : N = n) (hx : 0 ≤ x ∧ x ≤ 4294967295) (hn : 1 ≤ n ∧ n ≤ 31) :
    Calls Tryd.prog 104 #[.int .u32 x, .int .i64 N] w fun e w' => e = .returned (.int .u32 (rot x n)) ∧ w = w' := by
  subst hN
  go_enter Tryd.func104, Tryd.ntmps104
  go_wp2_with (go_at_call 117; refine (rotate_any x n w hx hn).mono ?_; rintro e w' ⟨rfl, rfl⟩)
  go_ret
  exact ⟨rfl, rfl⟩

theorem or_comm32 (a b : Int) : bits BinOp.or .u32 a b = bits BinOp.or .u32 b a := by simp only [bits, BitVec.or_comm]

set_option maxHeartbeats 1600000 in
theorem turn_any (x N : Int) (n : Nat) (w : World) (hN : N = n) (hx : 0 ≤ x ∧ x ≤ 4294967295) (hn : 1 ≤ n ∧ n ≤ 31) :
    Calls Tryd.prog 116 #[.int .u32 x, .int .i64 N] w fun e w' => e = .returned (.int .u32 (rot x n)) ∧ ∃ m, w' = w.drewN m := by
  subst hN
  have hr : rot x n = bits BinOp.or .u32 (x / 2 ^ n) (x * 2 ^ (32 - n) % 4294967296) := or_comm32 _ _
  obtain ⟨m, hm⟩ : ∃ m, 32 - n = m := ⟨_, rfl⟩
  rw [hm] at hr
  have hs : (32 : Int) - (n : Int) = (m : Int) := by omega
  have hm2 : m ≤ 31 := by omega
  go_enter Tryd.func116, Tryd.ntmps116
  go_wp2_with fail
  go_quiet (fail)
  go_wp2_with fail
  go_ret
  exact ⟨by rw [hr]; rfl, _, rfl⟩

theorem or_bd (a b : Int) : 0 ≤ bits BinOp.or .u32 a b ∧ bits BinOp.or .u32 a b ≤ 4294967295 := by
  show 0 ≤ IntKind.u32.wrap _ ∧ IntKind.u32.wrap _ ≤ 4294967295
  rw [IntKind.wrap_u32]
  omega
theorem rot_bd (x : Int) (n : Nat) : 0 ≤ rot x n ∧ rot x n ≤ 4294967295 := or_bd _ _
theorem and_bd (a b : Int) : 0 ≤ bits BinOp.and .u32 a b ∧ bits BinOp.and .u32 a b ≤ 4294967295 := by
  show 0 ≤ IntKind.u32.wrap _ ∧ IntKind.u32.wrap _ ≤ 4294967295
  rw [IntKind.wrap_u32]
  omega
theorem xor_bd (a b : Int) : 0 ≤ bits BinOp.xor .u32 a b ∧ bits BinOp.xor .u32 a b ≤ 4294967295 := by
  show 0 ≤ IntKind.u32.wrap _ ∧ IntKind.u32.wrap _ ≤ 4294967295
  rw [IntKind.wrap_u32]
  omega
end Go.Proofs.YtpnodocjpedcmaaDoor.Sha
