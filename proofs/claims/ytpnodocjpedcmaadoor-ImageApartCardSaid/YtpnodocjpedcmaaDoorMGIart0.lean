/-
  Own words for every seat: how a law that leaves all old memory alone becomes its row, and how a slice of one-cell integers is read. Conditions: none beyond what each theorem names.
  Own words for rows of integers that a call makes itself: what is owned, what append, make and copy leave. No program. No conditions beyond what each theorem names.
  Own words: a world that has turned in some blocks alone (and has new ones). No program. No conditions beyond what each theorem names.
  Layer 6, sector: what is kept of sectors, as a list and as a map in memory. Conditions: as each theorem names.
  Layer 6, sector: maps of sectors and a device, in memory. Conditions: as each theorem names.
  Layer 6, sector: a device in memory; its small methods: contracts. Conditions: as each theorem names.
  Layer 6, sector: Fuse, Off, blows: contracts. Conditions: as each theorem names.
  Layer 6, sector: Clone, New, Read: contracts. Conditions: as each theorem names.
  Layer 6, sector: Read: contract. Conditions: as each theorem names.
  Layer 6, sector: Write: contract. Conditions: as each theorem names.
  Layer 6, sector: lists of sectors, plain. Conditions: as each theorem names.
  Layer 6, sector: Sync: contract. Conditions: as each theorem names.
  Layer 6, sector: what comes back, plain; rows apart from a device. Conditions: as each theorem names.
  Layer 6, sector: the library's contracts for a map's keys, in their order, laid at this program. Conditions: as each theorem names.
  Layer 6, sector: a map's keys, sorted: contract. Conditions: as each theorem names.
  Layer 6, sector: Back: contract. Conditions: as each theorem names.
  Layer 6, sector: nil devices, what may not be made, the bytes of a step: contracts. Conditions: as each theorem names.
  Layer 6, sector: the bytes of a step: contract. Conditions: as each theorem names.
  Layer 6, sector: a device through a row of calls; the document's example. Conditions: as each theorem names.
  Layer 7, part: what is read of a region, plain. Conditions: as each theorem names.
  Layer 7, part: what is written into a region, plain. Conditions: as each theorem names.
  Layer 7, part: Open, Size, has: contracts. Conditions: as each theorem names.
  Own words: a row of bytes read as a string; a step that kept rows apart. No program. No conditions beyond what each theorem names.
  Layer 7, part: Read: contract. Conditions: as each theorem names.
  Layer 7, part: Write: contract. Conditions: as each theorem names.
  Own words: texts of bytes, cut and joined. No program. No conditions beyond what each theorem names.
  Layer 7, the document's Write, plain: the texts that it cuts and fills up. Conditions: as each theorem names.
  Layer 6, the document's sectors: rows of them; find: contracts. Conditions: as each theorem names.
  Layer 6, the document's sectors: put: contract. Conditions: as each theorem names.
  Own words for arrays of integers: in a block of their own, by value, compared. No program. No conditions beyond what each theorem names.
  Layer 6, the document's device: New, fall, Down: contracts. Conditions: as each theorem names.
  Layer 6, the document's device: Read: contract. Conditions: as each theorem names.
  Own words: each law at the head of a list of operations serves as a step of a region that draws its order. No program. No conditions beyond what each theorem names.
  Layer 7, part: Open, the document's On: contracts. Conditions: as each theorem names.
  Layer 7, the document's On: contract. Conditions: as each theorem names.
-/
import Derived.Below
import Derived.Carry
import Derived.WalkKit
import Derived.ProofKit
import Derived.OpenShut
import Derived.Lib.Hide
import Derived.Deep.Draws
import Derived.Maps.AppendAt
import Derived.Deep.AppendLies
import Derived.Laws.CopyOwn
import Derived.Laws.MakeOwn
import Derived.OwnWalk
import Derived.RegionTactic
import Derived.Maps.OwnSet
import Derived.Test.YtpnodocjpedcmaaDoorRows
import Derived.Deep.QuietTactic
import Derived.BigQuiet
import Derived.Lib.SliceRun
import Derived.Deep.RegionWith
import Derived.Deep.CutRange
import Derived.Deep.DeepCutAuto
import Derived.Deep.CutBlock
import Derived.Maps.RangeWalk
import Derived.LoopTactic
import Derived.Sort.Row
import Derived.Shelf.SlIterI.Nil
import Derived.Shelf.SortM.Plain
import Derived.Shelf.SortM.SortNone
import Derived.Ground.GgzProg
import Derived.Ground.SlgmProg
import Derived.Laws.BytesArg
import Derived.Deep.RegionHeld
import Derived.IntWalk
import Derived.Deep.MidRow
import Derived.ChangeKeysEq
namespace Go.Proofs.YtpnodocjpedcmaaDoor.Kit
open Go.ChangeShapes Go.WideShapes Go.ChangeAt Go.RowKit

section
variable {H : Type} {enc : TypeId × Value → H} {P : Program}

theorem trodAll_below (hl : laidOutB P = true) {W W' : World} (hb : Below W.heap.size W W') :
    ∀ {ts : List TypeId} {vs : List Value} {ds : List (DataW H)} {ps : List MemPlace}, ts.all (fun t => P.readableRec t && decide (t < P.types.size)) = true →
      DataW.TrodAll enc P W 0 (fun _ => true) true ts vs ds ps → (∀ x ∈ ps, x.block < W.heap.size) → DataW.TrodAll enc P W' 0 (fun b => decide (b < W.heap.size)) true ts vs ds ps
  | [], [], [], _, _, h, _ => h
  | [], _ :: _, _, _, _, h, _ => h.elim
  | [], [], _ :: _, _, _, h, _ => h.elim
  | _ :: _, [], _, _, _, h, _ => h.elim
  | _ :: _, _ :: _, [], _, _, h, _ => h.elim
  | t :: ts, v :: vs, d :: ds, ps, hr, h, hlt => by
    obtain ⟨p, q, h1, h2, rfl⟩ := h
    simp only [List.all_cons, Bool.and_eq_true, decide_eq_true_eq] at hr
    exact ⟨p, q, Below.trod hl hr.1.1 hr.1.2 h1 hb (fun x hx => hlt x (by simp [hx])), trodAll_below hl hb (by simpa using hr.2) h2 (fun x hx => hlt x (by simp [hx])), rfl⟩

/-- A law's end: it answered true, and nothing that was there before has turned. -/
theorem law_post {f : Func} {s : ChangeSpec} {apart fresh handsOn : Bool} {W W' : World} {args : Array Value} {ds gs : List (DataW H)} {before : List MemPlace} {tb : TypeId}
    (hl : laidOutB P = true) (hr : f.params.toList.all (fun t => P.readableRec t && decide (t < P.types.size)) = true)
    (hW : DataW.Whole enc P f.params.toList s.vars apart W args.toList ds gs before) (hv : s.vars = [])
    (hres : f.resultTypes = #[tb]) (htb : P.underlying tb = some .bool)
    (hfn : s.fn H ds = { results := [.lit (.bool true)], args := ds }) (hb : Below W.heap.size W W') :
    s.post enc P f apart fresh handsOn false W args (.bool true) W' := by
  have hW' := hW
  obtain ⟨p, q, hA, hV, hps, hz, hn⟩ := hW
  rw [hv] at hV
  obtain ⟨rfl, rfl⟩ := trodVars_none hV
  simp only [List.append_nil] at hps
  subst hps
  have hlt : ∀ x ∈ before, x.block < W.heap.size := fun x hx => hW'.lt x hx
  refine ⟨ds, [], before, [], before, [], hW', ?_, ?_, ?_, World.keptBut_mono (fun x hx => ⟨hx, Or.inr (Or.inl hx)⟩) (hb.frame (· ∈ before)), fun h => by cases h⟩
  · rw [List.append_nil, hfn, hres]
    exact trodAll_mk1 (shut_bool htb _)
  · rw [List.append_nil, hfn]
    exact trodAll_below hl hb hr hA hlt
  · rw [List.append_nil, hfn, hv]
    exact rfl
end

theorem below_draws {B : Nat} {a w : World} (h : Below B a w) (n : Nat) : Below B a (w.drewN n) := ⟨h.os, h.tape, h.output, h.size, h.block⟩

/-! ### A slice of one-cell integers -/

/-- The slice at A holds the numbers xs; its memory lies below block B. -/
def Holds (w : World) (B : Nat) (k : IntKind) (A : Option Addr) (xs : List Int) : Prop :=
  0 < xs.length → ∃ b off : Nat, A = some ⟨b, off, none⟩ ∧ b < B ∧ ∀ j, j < xs.length → w.cell? ⟨b, off + j, none⟩ = some (.int k (xs.getD j 0))

theorem Holds.nil {w : World} {B : Nat} {k : IntKind} {A : Option Addr} : Holds w B k A [] := fun h => absurd h (by simp)

theorem Holds.keep {w w' : World} {B : Nat} {k : IntKind} {A : Option Addr} {xs : List Int} (h : Holds w B k A xs) (hk : ∀ p : Addr, p.block < B → w'.cell? p = w.cell? p) : Holds w' B k A xs := by
  intro hx
  obtain ⟨b, off, e, hb, hc⟩ := h hx
  exact ⟨b, off, e, hb, fun j hj => (hk _ hb).trans (hc j hj)⟩

theorem Holds.below {w w' : World} {B : Nat} {k : IntKind} {A : Option Addr} {xs : List Int} (h : Holds w B k A xs) (hb : Below B w w') : Holds w' B k A xs := h.keep fun _ hp => hb.cell hp

theorem Holds.more {w : World} {B B' : Nat} {k : IntKind} {A : Option Addr} {xs : List Int} (h : Holds w B k A xs) (hB : B ≤ B') : Holds w B' k A xs := by
  intro hx
  obtain ⟨b, off, e, hb, hc⟩ := h hx
  exact ⟨b, off, e, by omega, hc⟩

def Octets (xs : List Int) : Prop := ∀ n ∈ xs, 0 ≤ n ∧ n ≤ 255

theorem Octets.at_ {xs : List Int} (h : Octets xs) (j : Nat) : 0 ≤ xs[j]?.getD 0 ∧ xs[j]?.getD 0 ≤ 255 := by
  by_cases hj : j < xs.length
  · have := h xs[j] (List.getElem_mem hj)
    simpa [hj] using this
  · simp [List.getElem?_eq_none (by omega : xs.length ≤ j)]

theorem Octets.tail {xs : List Int} (h : Octets xs) (n : Nat) : Octets (xs.drop n) := fun _ hx => h _ (List.mem_of_mem_drop hx)
theorem Octets.head {xs : List Int} (h : Octets xs) (n : Nat) : Octets (xs.take n) := fun _ hx => h _ (List.mem_of_mem_take hx)

/-- A []uint8 that came in, opened: nil or not, it is a slice that holds its bytes. -/
theorem open_octets {H : Type} {enc : TypeId × Value → H} {P : Program} {w : World} {base : Nat} {t e : TypeId} {v : Value} {d : DataW H} {ps : List MemPlace}
    (ht : P.underlying t = some (.slice e)) (he : P.underlying e = some (.int .u8)) (hc : P.cellsOf e = 1)
    (hval : Value.okWide P w .any base t v) (h : DataW.Trod enc P w 0 (fun _ => true) true t v d ps) (hlt : ∀ x ∈ ps, x.block < w.heap.size) :
    ∃ (A : Option Addr) (cap : Nat) (xs : List Int), v = .slice A xs.length cap ∧ xs.length ≤ cap ∧ cap ≤ maxLen ∧ Octets xs ∧ Holds w w.heap.size .u8 A xs := by
  obtain ⟨a0, len, cap, rfl⟩ := okWide_slice ht hval
  obtain ⟨fuel, hf⟩ := h
  rcases open_ints ht he hc hf with ⟨hcs, hx⟩ | ⟨a, len', cap', zs, hcs, _, hl, hm, hz, hx, hcell, hwz⟩
  · simp [Value.cells] at hcs
    obtain ⟨rfl, rfl, rfl⟩ := hcs
    exact ⟨none, 0, [], rfl, Nat.le_refl _, Nat.zero_le _, fun _ h => by simp at h, Holds.nil⟩
  · simp [Value.cells] at hcs
    obtain ⟨rfl, rfl, rfl⟩ := hcs
    simp only [Prod.mk.injEq] at hx
    obtain ⟨rfl, rfl⟩ := hx
    simp only [if_true] at hz
    refine ⟨some a, cap, zs.take len, by simp [hz, Nat.min_eq_left hl], by simp; omega, hm, fun n hn => bounds_u8 (hwz n (List.mem_of_mem_take hn)), fun hx => ?_⟩
    simp only [List.length_take] at hx
    obtain ⟨b, off, spot⟩ := a
    have hspot : spot = none := by simpa [Addr.add] using World.cell?_spot (hcell 0 (by omega))
    subst hspot
    refine ⟨b, off, rfl, hlt (.cell b (off + 0)) (MemPlace.mem_row.2 ⟨0, by omega, by simp⟩), fun j hj => ?_⟩
    simp only [List.length_take] at hj
    rw [← add_plain, hcell j (by omega)]
    simp [List.getD, show j < len by omega]
end Go.Proofs.YtpnodocjpedcmaaDoor.Kit

namespace Go.Proofs.YtpnodocjpedcmaaDoor.Kit
open Go.ChangeShapes Go.WideShapes Go.ChangeAt Go.RowKit

/-- v is a slice of the call's own, at the head of a row from block B on (or nil), and reads xs. -/
def Own (w : World) (B : Nat) (e : TypeId) (k : IntKind) (v : Value) (xs : List Int) : Prop := w.ownsRow B e 1 v xs.length (xs.map (Value.int k))

/-- t is the type of slices over e, integers of kind k. -/
def IntElem (P : Program) (t e : TypeId) (k : IntKind) (bytes : Nat) : Prop :=
  P.underlying t = some (.slice e) ∧ (P.info? e).map (fun i => (i.zero, i.size, i.bytes)) = some (some (.int k 0), 1, bytes) ∧ bytes ≤ 8

section
variable {w w' : World} {B B' : Nat} {e : TypeId} {k : IntKind} {v : Value} {xs ys : List Int}

theorem ints_one (k : IntKind) (xs : List Int) : ∀ u ∈ xs.map (Value.int k), u.oneCell' = true := by
  intro u hu
  obtain ⟨n, _, rfl⟩ := List.mem_map.1 hu
  rfl

theorem get_ints {k : IntKind} {xs : List Int} {j : Nat} {u : Value} (h : (xs.map (Value.int k))[j]? = some u) : j < xs.length ∧ u = .int k (xs.getD j 0) := by
  rcases Nat.lt_or_ge j xs.length with hj | hj
  · simp [List.getElem?_eq_getElem hj] at h
    exact ⟨hj, by rw [← h]; simp [List.getD, List.getElem?_eq_getElem hj]⟩
  · simp [List.getElem?_eq_none hj] at h

theorem Own.nil (w : World) (B : Nat) (e : TypeId) (k : IntKind) : Own w B e k (.slice none 0 0) [] := World.ownsRow_nil w B e 1

theorem Own.empty (w : World) (e : TypeId) (k : IntKind) (hB : B ≤ w.heap.size) : Own (w.alloc (.cells #[] e)) B e k (.slice (some ⟨w.heap.size, 0, none⟩) 0 0) [] :=
  World.ownsRow_lit (size := 1) w #[] 0 hB (Nat.zero_le _) rfl

theorem Own.opened (h : Own w B e k v xs) : ∃ (A : Option Addr) (cap : Nat), v = .slice A xs.length cap ∧ xs.length ≤ cap ∧ cap ≤ maxLen ∧ Holds w w.heap.size k A xs := by
  rcases h.2 with ⟨rfl, h0⟩ | ⟨g, cap, cur, rfl, hb, hg, hnc, hcm, hcs, htake⟩
  · obtain rfl : xs = [] := List.eq_nil_of_length_eq_zero h0
    exact ⟨none, 0, rfl, Nat.le_refl _, Nat.zero_le _, Holds.nil⟩
  · refine ⟨some ⟨g, 0, none⟩, cap, rfl, hnc, hcm, fun _ => ⟨g, 0, rfl, (Array.getElem?_eq_some_iff.1 hg).1, fun j hj => ?_⟩⟩
    have := World.ownsRow.cellAt h j (by omega)
    rw [Nat.zero_add, this]
    simp [List.getD, List.getElem?_eq_getElem hj]

theorem Own.form (h : Own w B e k v xs) (hx : 0 < xs.length) : ∃ g cap : Nat, v = .slice (some ⟨g, 0, none⟩) xs.length cap ∧ B ≤ g ∧ g < w.heap.size ∧ xs.length ≤ cap ∧ cap ≤ maxLen := by
  rcases h.2 with ⟨rfl, h0⟩ | ⟨g, cap, cur, rfl, hb, hg, hnc, hcm, hcs, htake⟩
  · omega
  · exact ⟨g, cap, rfl, hb, (Array.getElem?_eq_some_iff.1 hg).1, hnc, hcm⟩

theorem Own.kept {row : Option Nat} (h : Own w B e k v xs) (hg : w.grownBy w' row) (hne : v.ownBlock = none ∨ v.ownBlock ≠ row) : Own w' B e k v xs := World.ownsRow.kept h hg hne
theorem Own.alloc (h : Own w B e k v xs) (o : Obj) : Own (w.alloc o) B e k v xs := World.ownsRow.alloc h o
theorem Own.drewN (h : Own w B e k v xs) (n : Nat) : Own (w.drewN n) B e k v xs := h
theorem Own.mono (h : Own w B e k v xs) (hb : B' ≤ B) : Own w B' e k v xs := by
  rcases h.2 with ⟨rfl, h0⟩ | ⟨g, cap, cur, rfl, hbg, hrest⟩
  · exact ⟨h.1, .inl ⟨rfl, h0⟩⟩
  · exact ⟨h.1, .inr ⟨g, cap, cur, rfl, by omega, hrest⟩⟩
theorem Own.lt (h : Own w B e k v xs) : ∀ g, v.ownBlock = some g → B ≤ g ∧ g < w.heap.size := World.ownsRow.lt h

/-- v[i] = z, v a row of the call's own. -/
theorem Own.stored {g cap n : Nat} (h : Own w B e k (.slice (some ⟨g, 0, none⟩) n cap) xs) (hn : n = xs.length) (i : Nat) (z : Int) :
    Own (w.setCell ⟨g, i, none⟩ (.int k z)) B e k (.slice (some ⟨g, 0, none⟩) n cap) (xs.set i z) ∧ w.grownBy (w.setCell ⟨g, i, none⟩ (.int k z)) (some g) := by
  subst hn
  obtain ⟨h1, h2⟩ := World.ownsRow.stored h i (.int k z)
  refine ⟨?_, h2⟩
  unfold Own
  rw [List.length_set, List.map_set]
  exact h1

theorem Own.cellAt {g cap n : Nat} (h : Own w B e k (.slice (some ⟨g, 0, none⟩) n cap) xs) (hn : n = xs.length) {i : Nat} (hi : i < xs.length) : w.cell? ⟨g, i, none⟩ = some (.int k (xs[i]?.getD 0)) := by
  subst hn
  rw [World.ownsRow.cellAt h i (by omega)]
  simp [List.getElem?_eq_getElem hi]

theorem Own.frozenAt {g cap n : Nat} (h : Own w B e k (.slice (some ⟨g, 0, none⟩) n cap) xs) (hn : n = xs.length) (i : Nat) : w.frozen? ⟨g, i, none⟩ = false := by
  subst hn
  exact World.ownsRow.frozenAt h i

theorem Own.below (h : Own w B e k v xs) (hb : Below w.heap.size w w') : Own w' B e k v xs := by
  refine h.kept (row := none) ⟨hb.os, hb.tape, hb.output, hb.size, fun g hg _ => hb.block g hg⟩ ?_
  cases hv : v.ownBlock with
  | none => exact .inl rfl
  | some g => exact .inr (by simp)

/-- Kept where all that turns lies from another row's base on. -/
theorem Own.under {C : Nat} (h : Own w B e k v xs) (hb : Below C w w') (hv : ∀ g, v.ownBlock = some g → g < C) : Own w' B e k v xs := by
  rcases h.2 with ⟨rfl, h0⟩ | ⟨g, cap, cur, rfl, hbg, hg, hnc, hcm, hcs, htake⟩
  · exact ⟨h.1, .inl ⟨rfl, h0⟩⟩
  · exact ⟨h.1, .inr ⟨g, cap, cur, rfl, hbg, (hb.block g (hv g rfl)).trans hg, hnc, hcm, hcs, htake⟩⟩

/-- Block g is just these cells of type t, none of them frozen. -/
def Block (w : World) (g : Nat) (t : TypeId) (cs : Array Value) : Prop := w.heap[g]? = some (.cells cs t (0, 0))

theorem Block.new (w : World) (t : TypeId) (cs : Array Value) : Block (w.alloc (.cells cs t)) w.heap.size t cs := heap_alloc_new w _
theorem Block.lt {g : Nat} {t : TypeId} {cs : Array Value} (h : Block w g t cs) : g < w.heap.size := (Array.getElem?_eq_some_iff.1 h).1
theorem Block.cell {g : Nat} {t : TypeId} {cs : Array Value} (h : Block w g t cs) (i : Nat) : w.cell? ⟨g, i, none⟩ = cs[i]? := cell_of_row w g i cs t (0, 0) h
theorem Block.frozen {g : Nat} {t : TypeId} {cs : Array Value} (h : Block w g t cs) (i : Nat) : w.frozen? ⟨g, i, none⟩ = false := frozen_of_row w g i cs t h
theorem Block.below {g : Nat} {t : TypeId} {cs : Array Value} (h : Block w g t cs) (hb : Below B w w') (hg : g < B) : Block w' g t cs := (hb.block g hg).trans h
theorem Block.grown {g : Nat} {t : TypeId} {cs : Array Value} {row : Option Nat} (h : Block w g t cs) (hb : w.grownBy w' row) (hg : row ≠ some g) : Block w' g t cs := (hb.block g h.lt (Ne.symm hg)).trans h
theorem Block.alloc {g : Nat} {t : TypeId} {cs : Array Value} (h : Block w g t cs) (o : Obj) : Block (w.alloc o) g t cs := (Below.heap_alloc w o g h.lt).trans h
theorem Block.drewN {g : Nat} {t : TypeId} {cs : Array Value} (h : Block w g t cs) (n : Nat) : Block (w.drewN n) g t cs := h
theorem Block.set_ {g : Nat} {t : TypeId} {cs : Array Value} (h : Block w g t cs) (i : Nat) (u : Value) : Block (w.setCell ⟨g, i, none⟩ u) g t (cs.setIfInBounds i u) := heap_setCell_same w g i cs t u h
theorem Block.far {g : Nat} {t : TypeId} {cs : Array Value} (h : Block w g t cs) {p : Addr} (hp : g ≠ p.block) (u : Value) : Block (w.setCell p u) g t cs := (Below.heap_setCell w p u g hp).trans h

/-- Rows of different types of elements never share a block. -/
theorem Own.ne_block {g : Nat} {t : TypeId} {cs : Array Value} (h : Own w B e k v xs) (hg : Block w g t cs) (hne : e ≠ t) : v.ownBlock ≠ some g := by
  rcases h.2 with ⟨rfl, _⟩ | ⟨g', cap, cur, rfl, _, hh, _⟩
  · simp [Value.ownBlock]
  · intro he
    obtain rfl : g' = g := by simpa [Value.ownBlock] using he
    unfold Block at hg
    rw [hh] at hg
    injection hg with hg
    injection hg with _ ht
    exact hne ht

theorem below_of_grown {row : Option Nat} (hg : w.grownBy w' row) (hB : B ≤ w.heap.size) (hr : ∀ g, row = some g → B ≤ g) : Below B w w' := (Below.refl B w).grown hg hB hr
end

section
variable {P : Program} (w : World)

theorem run_append_no_source (t ty e : TypeId) (i : TypeInfo) (ht : P.underlying t = some (.slice e)) (hi : P.info? e = some i) {B size : Nat}
    (v : Value) (n : Nat) (xs : List Value) (hown : w.ownsRow B e size v n xs) (c : Nat) : (Builtin.append_ #[t, t] ty #[v, .slice none 0 c]).run P w = .ok v w := by
  rcases hown.2 with ⟨rfl, _⟩ | ⟨g, cap, cur, rfl, _, _, hnc, _⟩
  · simp [Builtin.append_, run_underlying ht, sizeOf, typeInfo, hi, Builtin.lenOf, Builtin.firstCells]
  · simp [Builtin.append_, run_underlying ht, sizeOf, typeInfo, hi, Builtin.lenOf, Builtin.firstCells, hnc, storeCells]

theorem run_append_ints {t ty e : TypeId} {k : IntKind} {bytes : Nat} (he : IntElem P t e k bytes) {B B' : Nat} {v : Value} {xs ys : List Int} (hown : Own w B e k v xs)
    {A : Option Addr} (c : Nat) (hr : Holds w B' k A ys) (hsz : xs.length + ys.length ≤ 1099511627776) (hbase : B ≤ w.heap.size) :
    ∃ v' w', (Builtin.append_ #[t, t] ty #[v, .slice A ys.length c]).run P w = .ok v' w' ∧ Own w' B e k v' (xs ++ ys) ∧ w.grownBy w' v.ownBlock ∧
      (v'.ownBlock = v.ownBlock ∨ v'.ownBlock = some w.heap.size) := by
  obtain ⟨ht, hinfo, hb8⟩ := he
  obtain ⟨i, hi, hz, hs, hby⟩ := info_parts hinfo
  cases A with
  | none =>
    have h0 : ys = [] := by
      rcases Nat.eq_zero_or_pos ys.length with h | h
      · exact List.eq_nil_of_length_eq_zero h
      · obtain ⟨_, _, h', _⟩ := hr h
        cases h'
    subst h0
    exact ⟨v, w, run_append_no_source w t ty e i ht hi v _ _ hown c, by simpa using hown, World.grownBy.refl w _, .inl rfl⟩
  | some ad =>
    have hcells : ∀ j u, (ys.map (Value.int k))[j]? = some u → w.cell? (ad.add j) = some u := by
      intro j u hu
      obtain ⟨hj, rfl⟩ := get_ints hu
      obtain ⟨b, off, h', _, hc⟩ := hr (by omega)
      injection h' with h'
      subst h'
      rw [add_plain]
      exact hc j hj
    have hmul : (xs.length + ys.length) * bytes ≤ (xs.length + ys.length) * 8 := Nat.mul_le_mul_left _ hb8
    obtain ⟨v', w', hrun, h2, h3, _, h5⟩ := run_append_own_at (P := P) w B t ty e i (.int k 0) 1 bytes ht hi hz hs hby rfl (by omega) v xs.length (xs.map (Value.int k)) hown
      ad ys.length c (ys.map (Value.int k)) (by simp) hcells (ints_one k ys) (by unfold maxLen; omega) (by omega) hbase
    exact ⟨v', w', hrun, by simpa [Own] using h2, h3, h5⟩

/-- append(v, ys...): v a row of the call's own, ys any slice of the same integers. -/
theorem wpList_append_ints {ops : Array Oper} {rest : List Oper} {o : Oper} {a : Act} {Q : Exit → Act → World → Prop} (hgd : o.guard = none) (s x : Operand) (t : TypeId)
    (ho : o.op = .call { callee := .builtin .append, args := #[s, x], argTypes := #[t, t] }) {e : TypeId} {k : IntKind} {bytes : Nat} (he : IntElem P t e k bytes)
    {B B' : Nat} {v : Value} {xs ys : List Int} (hown : Own w B e k v xs) (hs : a.eval s = v)
    {A : Option Addr} {c : Nat} (hx : a.eval x = .slice A ys.length c) (hr : Holds w B' k A ys) (hsz : xs.length + ys.length ≤ 1099511627776) (hbase : B ≤ w.heap.size)
    (h : ∀ v' w', Own w' B e k v' (xs ++ ys) → w.grownBy w' v.ownBlock → Below B w w' → (v'.ownBlock = v.ownBlock ∨ v'.ownBlock = some w.heap.size) → wpList P ops Q rest (a.put o.dst v') w') :
    wpList P ops Q (o :: rest) a w := by
  refine wpList_plain hgd fun K hK => ?_
  obtain ⟨v', w', hrun, h2, h3, h4⟩ := run_append_ints (P := P) w (ty := o.type) he hown c hr hsz hbase
  unfold Oper.wp
  simp only [execOp, ho, resolve, invoke, builtin, Sem.run_bind, Sem.run_pure, Result.andThen_ok, List.map_toArray, List.map_cons, List.map_nil, hs, hx, hrun]
  exact hK _ _ (h v' w' h2 h3 (below_of_grown h3 hbase fun g hg => (hown.lt g hg).1) h4)

theorem Holds.new (w : World) (k : IntKind) (z : Int) (e : TypeId) : Holds (w.alloc (.cells #[.int k z] e)) (w.heap.size + 1) k (some ⟨w.heap.size, 0, none⟩) [z] := by
  intro _
  refine ⟨w.heap.size, 0, rfl, by omega, fun j hj => ?_⟩
  obtain rfl : j = 0 := by simpa using hj
  exact cell_of_row (w.alloc (.cells #[.int k z] e)) w.heap.size 0 #[.int k z] e (0, 0) (heap_alloc_new w _)

/-- append(v, z): v a row of the call's own; z lies alone in the newest block. -/
theorem wpList_append_one {ops : Array Oper} {rest : List Oper} {o : Oper} {a : Act} {Q : Exit → Act → World → Prop} (hgd : o.guard = none) (s x : Operand) (t : TypeId)
    (ho : o.op = .call { callee := .builtin .append, args := #[s, x], argTypes := #[t, t] }) {e : TypeId} {k : IntKind} {bytes : Nat} (he : IntElem P t e k bytes)
    {B : Nat} {v : Value} {xs : List Int} (hown : Own w B e k v xs) (hs : a.eval s = v)
    {z : Int} {c : Nat} (hx : a.eval x = .slice (some ⟨w.heap.size, 0, none⟩) 1 c) (hsz : xs.length + 1 ≤ 1099511627776) (hbase : B ≤ w.heap.size)
    (h : ∀ v' w', Own w' B e k v' (xs ++ [z]) → (w.alloc (.cells #[.int k z] e)).grownBy w' v.ownBlock → Below B w w' → wpList P ops Q rest (a.put o.dst v') w') :
    wpList P ops Q (o :: rest) a (w.alloc (.cells #[.int k z] e)) := by
  refine wpList_append_ints (ys := [z]) (B' := w.heap.size + 1) _ hgd s x t ho he (hown.alloc _) hs hx (Holds.new w k z e) (by simpa using hsz) (by simp; omega) ?_
  intro v' w' h1 h2 h3 _
  exact h v' w' h1 h2 (((Below.refl B w).alloc hbase _).trans h3)

/-- make([]T, n, m), both variables. -/
theorem wpList_make_ints {ops : Array Oper} {rest : List Oper} {o : Oper} {a : Act} {Q : Exit → Act → World → Prop} (hgd : o.guard = none) (l c : Operand) (t : TypeId)
    (ho : o.op = Op.makeSlice t l c) {e : TypeId} {k : IntKind} {bytes : Nat} (he : IntElem P t e k bytes) {kl kc : IntKind} {L C : Int} (n m : Nat)
    (hl : a.eval l = .int kl L) (hc : a.eval c = .int kc C) (hL : L = (n : Int)) (hC : C = (m : Int)) (hnm : n ≤ m) (hsz : m ≤ 1099511627776)
    (h : ∀ w', Own w' w.heap.size e k (.slice (some ⟨w.heap.size, 0, none⟩) n m) (List.replicate n 0) → Below w.heap.size w w' → w.heap.size < w'.heap.size →
      wpList P ops Q rest (a.put o.dst (.slice (some ⟨w.heap.size, 0, none⟩) n m)) w') :
    wpList P ops Q (o :: rest) a w := by
  obtain ⟨ht, hinfo, hb8⟩ := he
  obtain ⟨i, hi, hz, hs, hby⟩ := info_parts hinfo
  subst hL; subst hC
  refine wpList_plain hgd fun K hK => ?_
  have hmul : m * bytes ≤ m * 8 := Nat.mul_le_mul_left _ hb8
  have hmul2 : (bytes : Int) * (m : Int) = ((m * bytes : Nat) : Int) := by push_cast; rw [Int.mul_comm]
  have hrun := run_make (P := P) w t e i (.int k 0) ht hi hz kl kc n m (by omega) (by omega) (by rw [hby, hmul2]; omega) (by omega)
  unfold Oper.wp
  simp [execOp, ho, hl, hc, hrun, Result.andThen]
  refine hK _ _ ?_
  have hcells : (madeCells (Value.int k 0).cells ((m : Int).toNat * i.size)) = (List.replicate m (Value.int k 0)).toArray := by
    apply Array.toList_inj.1
    rw [hs, show (Value.int k 0).cells = #[Value.int k 0] from rfl, toList_madeCells_one]
    simp
  rw [Int.toNat_natCast] at hcells
  rw [hcells]
  refine h _ ⟨by simp, .inr ⟨w.heap.size, m, _, by simp, Nat.le_refl _, heap_alloc_new w _, by simpa using hnm, by unfold maxLen; omega, by simp, ?_⟩⟩ ((Below.refl _ _).alloc (Nat.le_refl _) _) (by simp)
  simp [Nat.min_eq_left hnm]

/-- copy(v, ys): v a row of the call's own, whole; ys any slice of the same integers, no longer than v. -/
theorem wpList_copy_ints {ops : Array Oper} {rest : List Oper} {o : Oper} {a : Act} {Q : Exit → Act → World → Prop} (hgd : o.guard = none) (d s : Operand) (t : TypeId)
    (ho : o.op = .call { callee := .builtin .copy, args := #[d, s], argTypes := #[t, t] }) {e : TypeId} {k : IntKind} {bytes : Nat} (he : IntElem P t e k bytes)
    {B B' : Nat} {v : Value} {xs ys : List Int} (hown : Own w B e k v xs) (hd : a.eval d = v) {A : Option Addr} {c : Nat} (hs : a.eval s = .slice A ys.length c) (hr : Holds w B' k A ys)
    (hle : ys.length ≤ xs.length) (hbase : B ≤ w.heap.size)
    (h : ∀ w', Own w' B e k v (ys ++ xs.drop ys.length) → w.grownBy w' v.ownBlock → Below B w w' → wpList P ops Q rest (a.put o.dst (goInt ys.length)) w') :
    wpList P ops Q (o :: rest) a w := by
  obtain ⟨ht, hinfo, hb8⟩ := he
  obtain ⟨i, hi, hz, hsi, hby⟩ := info_parts hinfo
  have hsz : (P.info? e).map (·.size) = some 1 := by rw [hi]; simp [hsi]
  rcases Nat.eq_zero_or_pos ys.length with h0 | h0
  · obtain rfl : ys = [] := List.eq_nil_of_length_eq_zero h0
    obtain ⟨A', cap', rfl, _⟩ := hown.opened
    refine wpList_copy_nothing hgd d s t t ho e ht hsz _ _ _ _ _ _ hd hs (by simp) ?_
    exact h w (by simpa using hown) (World.grownBy.refl w _) (Below.refl _ _)
  · obtain ⟨b, off, rfl, hb, hc⟩ := hr h0
    have hxl : xs.length ≠ 0 := by omega
    rcases hown.2 with ⟨rfl, h1⟩ | ⟨g, cap, cur, rfl, hbg, hg, hnc, hcm, hcs, htake⟩
    · omega
    · refine wpList_copy_own hgd d s t t ho e ht hsz g 0 xs.length cap ⟨b, off, none⟩ ys.length c hd hs cur e hg (ys.map (Value.int k)) (by simp [Nat.min_eq_left hle]) ?_ (by simp; omega) (ints_one k ys) ?_
      · intro j u hu
        obtain ⟨hj, rfl⟩ := get_ints hu
        rw [add_plain]
        exact hc j hj
      · have hlen : (ys ++ xs.drop ys.length).length = xs.length := by simp; omega
        have hgrown : w.grownBy (w.setRow g (cur.toList.take 0 ++ (ys.map (Value.int k) ++ cur.toList.drop (0 + (ys.map (Value.int k)).length))).toArray) (some g) :=
          ⟨rfl, rfl, rfl, by simp [World.setRow], fun j _ hj => setRow_other w g j _ (fun e => hj (by rw [e]))⟩
        rw [show goInt (ys.map (Value.int k)).length = goInt ys.length by simp]
        refine h _ ?_ hgrown (below_of_grown hgrown hbase fun g' hg' => by simp at hg'; omega)
        refine ⟨by simp, .inr ⟨g, cap, _, by rw [hlen], hbg, setRow_heap w g _ _ e _ hg, by omega, hcm, ?_, ?_⟩⟩
        · simp; omega
        · rw [hlen]
          simp only [Nat.mul_one] at htake ⊢
          simp only [List.take_zero, List.nil_append, Nat.zero_add, List.length_map, List.map_append, List.map_drop]
          rw [List.take_append, List.length_map, List.take_of_length_le (by simp; omega), ← htake, List.drop_take]
end
end Go.Proofs.YtpnodocjpedcmaaDoor.Kit

namespace Go.Proofs.YtpnodocjpedcmaaDoor.Kit
open Go.ChangeShapes Go.WideShapes Go.ChangeAt Go.RowKit

/-- From w to w' nothing has turned but blocks in S and new ones. -/
structure TurnsIn (S : Nat → Prop) (w w' : World) : Prop where
  os : w'.os = w.os
  tape : w'.tape = w.tape
  output : w'.output = w.output
  size : w.heap.size ≤ w'.heap.size
  block : ∀ b, b < w.heap.size → ¬ S b → w'.heap[b]? = w.heap[b]?

section
variable {S T : Nat → Prop} {w w' w1 w2 : World} {B : Nat} {e : TypeId} {k : IntKind} {v : Value} {xs : List Int}

theorem TurnsIn.refl (S : Nat → Prop) (w : World) : TurnsIn S w w := ⟨rfl, rfl, rfl, Nat.le_refl _, fun _ _ _ => rfl⟩
theorem TurnsIn.trans (h : TurnsIn S w w1) (g : TurnsIn S w1 w2) : TurnsIn S w w2 :=
  ⟨g.os.trans h.os, g.tape.trans h.tape, g.output.trans h.output, Nat.le_trans h.size g.size, fun b hb hs => (g.block b (Nat.lt_of_lt_of_le hb h.size) hs).trans (h.block b hb hs)⟩
/-- The second step may turn what is new in the first one, too. -/
theorem TurnsIn.then_ (h : TurnsIn S w w1) (g : TurnsIn T w1 w2) (hT : ∀ b, b < w.heap.size → T b → S b) : TurnsIn S w w2 :=
  ⟨g.os.trans h.os, g.tape.trans h.tape, g.output.trans h.output, Nat.le_trans h.size g.size, fun b hb hs => (g.block b (Nat.lt_of_lt_of_le hb h.size) (fun ht => hs (hT b hb ht))).trans (h.block b hb hs)⟩
theorem TurnsIn.mono (h : TurnsIn S w w') (hT : ∀ b, b < w.heap.size → S b → T b) : TurnsIn T w w' := ⟨h.os, h.tape, h.output, h.size, fun b hb hs => h.block b hb (fun hx => hs (hT b hb hx))⟩
theorem TurnsIn.ofBelow (h : Below B w w') (hs : ∀ b, b < w.heap.size → B ≤ b → S b) : TurnsIn S w w' :=
  ⟨h.os, h.tape, h.output, h.size, fun b hb hn => h.block b (Nat.lt_of_not_le fun hle => hn (hs b hb hle))⟩
theorem TurnsIn.ofNew (h : Below w.heap.size w w') : TurnsIn S w w' := .ofBelow h fun b hb hle => absurd hb (by omega)
theorem TurnsIn.ofGrown {row : Option Nat} (h : w.grownBy w' row) (hs : ∀ b, row = some b → S b) : TurnsIn S w w' :=
  ⟨h.os, h.tape, h.output, h.size, fun b hb hn => h.block b hb fun he => hn (hs b he.symm)⟩
theorem TurnsIn.toBelow (h : TurnsIn S w w') (hB : B ≤ w.heap.size) (hs : ∀ b, b < B → ¬ S b) : Below B w w' :=
  ⟨h.os, h.tape, h.output, h.size, fun b hb => h.block b (by omega) (hs b hb)⟩
theorem TurnsIn.drewN (h : TurnsIn S w w') (n : Nat) : TurnsIn S w (w'.drewN n) := ⟨h.os, h.tape, h.output, h.size, h.block⟩
theorem TurnsIn.alloc (h : TurnsIn S w w') (o : Obj) : TurnsIn S w (w'.alloc o) :=
  ⟨h.os, h.tape, h.output, Nat.le_trans h.size (by simp), fun b hb hn => (Below.heap_alloc w' o b (Nat.lt_of_lt_of_le hb h.size)).trans (h.block b hb hn)⟩
theorem TurnsIn.setCell (h : TurnsIn S w w') {p : Addr} (hp : S p.block ∨ w.heap.size ≤ p.block) (u : Value) : TurnsIn S w (w'.setCell p u) :=
  ⟨h.os, h.tape, h.output, by simpa [World.setCell] using h.size, fun b hb hn => (Below.heap_setCell w' p u b (by
    rintro rfl
    rcases hp with hp | hp
    · exact hn hp
    · omega)).trans (h.block b hb hn)⟩

theorem Own.out (h : Own w B e k v xs) (ho : TurnsIn S w w') (hv : ∀ g, v.ownBlock = some g → ¬ S g) : Own w' B e k v xs := by
  rcases h.2 with ⟨rfl, h0⟩ | ⟨g, cap, cur, rfl, hbg, hg, hnc, hcm, hcs, htake⟩
  · exact ⟨h.1, .inl ⟨rfl, h0⟩⟩
  · exact ⟨h.1, .inr ⟨g, cap, cur, rfl, hbg, (ho.block g (Array.getElem?_eq_some_iff.1 hg).1 (hv g rfl)).trans hg, hnc, hcm, hcs, htake⟩⟩
theorem Block.out {g : Nat} {t : TypeId} {cs : Array Value} (h : Block w g t cs) (ho : TurnsIn S w w') (hg : ¬ S g) : Block w' g t cs := (ho.block g h.lt hg).trans h
theorem Holds.out {A : Option Addr} (h : Holds w B k A xs) (ho : TurnsIn S w w') (hB : B ≤ w.heap.size) (hs : ∀ b, b < B → ¬ S b) : Holds w' B k A xs := h.below (ho.toBelow hB hs)

/-- What turned keeps a block's kind of row: a row that grew lies where it lay, or is new. -/
def Newer (w : World) (v v' : Value) : Prop := v'.ownBlock = v.ownBlock ∨ ∀ g, v'.ownBlock = some g → w.heap.size ≤ g
theorem Newer.refl (w : World) (v : Value) : Newer w v v := .inl rfl
theorem Newer.trans {v1 v2 : Value} (h : Newer w v v1) (hs : w.heap.size ≤ w1.heap.size) (g : Newer w1 v1 v2) : Newer w v v2 := by
  rcases g with g | g
  · rcases h with h | h
    · exact .inl (g.trans h)
    · exact .inr fun x hx => h x (g ▸ hx)
  · exact .inr fun x hx => Nat.le_trans hs (g x hx)
theorem Newer.ofApp {v' : Value} (h : v'.ownBlock = v.ownBlock ∨ v'.ownBlock = some w.heap.size) : Newer w v v' := by
  rcases h with h | h
  · exact .inl h
  · exact .inr fun g hg => by rw [h] at hg; injection hg with hg; omega
/-- A row of one's own that lies apart from another one stays apart. -/
theorem Newer.apart {v' u : Value} {g : Nat} (h : Newer w v v') (hu : u.ownBlock = some g) (hl : g < w.heap.size) (hn : v.ownBlock ≠ some g) : v'.ownBlock ≠ some g := by
  rcases h with h | h
  · rw [h]; exact hn
  · intro he; have := h g he; omega
end

/-- append(v, ys...), as one step of a region that draws its order. -/
theorem step_append_ints {P : Program} {ops : Array Oper} {o : Oper} {a : Act} {w : World} {K : Act → World → Prop} {Q : Exit → Act → World → Prop} {E : Prop}
    (hg : o.guard = none) (s x : Operand) (t : TypeId) (ho : o.op = Op.call { callee := Callee.builtin Builtin.append, args := #[s, x], argTypes := #[t, t] })
    {e : TypeId} {k : IntKind} {bytes : Nat} (he : IntElem P t e k bytes) {B B' : Nat} {v : Value} {xs ys : List Int} (hown : Own w B e k v xs) (hs : a.eval s = v)
    {A : Option Addr} {c : Nat} (hx : a.eval x = .slice A ys.length c) (hr : Holds w B' k A ys) (hsz : xs.length + ys.length ≤ 1099511627776) (hbase : B ≤ w.heap.size)
    (hK : ∀ v' w', Own w' B e k v' (xs ++ ys) → w.grownBy w' v.ownBlock → Below B w w' → (v'.ownBlock = v.ownBlock ∨ v'.ownBlock = some w.heap.size) → K (a.put o.dst v') w') :
    if Region.wanted o (yielded ops a.tmps) = true then Oper.wp P o a w K Q else E := by
  have hw : Region.wanted o (yielded ops a.tmps) = true := by simp [Region.wanted, hg]
  rw [if_pos hw]
  obtain ⟨v', w', hrun, h2, h3, h4⟩ := run_append_ints (P := P) w (ty := o.type) he hown c hr hsz hbase
  unfold Oper.wp
  simp [execOp, ho, resolve, invoke, builtin, hs, hx, hrun, Result.andThen]
  exact hK _ _ h2 h3 (below_of_grown h3 hbase fun g hg => (hown.lt g hg).1) h4

/-- append(v, z), z alone in the newest block, as one step of a region that draws its order; a block of other cells stays as it is. -/
theorem step_append_one {P : Program} {ops : Array Oper} {o : Oper} {a : Act} {w : World} {K : Act → World → Prop} {Q : Exit → Act → World → Prop} {E : Prop}
    (hg : o.guard = none) (s x : Operand) (t : TypeId) (ho : o.op = Op.call { callee := Callee.builtin Builtin.append, args := #[s, x], argTypes := #[t, t] })
    {e : TypeId} {k : IntKind} {bytes : Nat} (he : IntElem P t e k bytes) {B : Nat} {v : Value} {xs : List Int} {z : Int} (hown : Own w B e k v xs) (hs : a.eval s = v)
    {c : Nat} (hx : a.eval x = .slice (some ⟨w.heap.size, 0, none⟩) 1 c) (hsz : xs.length + 1 ≤ 1099511627776) (hbase : B ≤ w.heap.size)
    {g : Nat} {tg : TypeId} {cs : Array Value} (hblk : Block w g tg cs) (hne : e ≠ tg)
    (hK : ∀ A' c' w', Own w' B e k (.slice A' (xs.length + 1) c') (xs ++ [z]) → TurnsIn (fun b => v.ownBlock = some b) w w' → Newer w v (.slice A' (xs.length + 1) c') → Block w' g tg cs → K (a.put o.dst (.slice A' (xs.length + 1) c')) w') :
    if Region.wanted o (yielded ops a.tmps) = true then Oper.wp P o a (w.alloc (.cells #[.int k z] e)) K Q else E := by
  refine step_append_ints (ys := [z]) hg s x t ho he (hown.alloc _) hs hx (Holds.new w k z e) (by simpa using hsz) (by simp; omega) ?_
  intro v' w' h1 h2 h3 h4
  obtain ⟨A', c', rfl, _, _, _⟩ := h1.opened
  have hlen : (xs ++ [z]).length = xs.length + 1 := by simp
  have hk := hK A' c' w'
  rw [hlen] at h1 h4
  rw [hlen]
  refine hk h1 (((TurnsIn.refl _ w).alloc _).trans (.ofGrown h2 fun b hb => hb)) ?_ ((hblk.alloc _).grown h2 (hown.ne_block hblk hne))
  rcases h4 with h4 | h4
  · exact .inl h4
  · exact .inr fun g hg => by rw [h4] at hg; simp at hg; omega

/-- The same behind the region's draw. -/
theorem step_append_one_drew {P : Program} {ops : Array Oper} {o : Oper} {a : Act} {w : World} {K : Act → World → Prop} {Q : Exit → Act → World → Prop} {E : Prop}
    (hg : o.guard = none) (s x : Operand) (t : TypeId) (ho : o.op = Op.call { callee := Callee.builtin Builtin.append, args := #[s, x], argTypes := #[t, t] })
    {e : TypeId} {k : IntKind} {bytes : Nat} (he : IntElem P t e k bytes) {B : Nat} {v : Value} {xs : List Int} {z : Int} (hown : Own w B e k v xs) (hs : a.eval s = v)
    {c : Nat} (hx : a.eval x = .slice (some ⟨w.heap.size, 0, none⟩) 1 c) (hsz : xs.length + 1 ≤ 1099511627776) (hbase : B ≤ w.heap.size)
    {g : Nat} {tg : TypeId} {cs : Array Value} (hblk : Block w g tg cs) (hne : e ≠ tg)
    (hK : ∀ A' c' w', Own w' B e k (.slice A' (xs.length + 1) c') (xs ++ [z]) → TurnsIn (fun b => v.ownBlock = some b) w w' → Newer w v (.slice A' (xs.length + 1) c') → Block w' g tg cs → K (a.put o.dst (.slice A' (xs.length + 1) c')) w') :
    if Region.wanted o (yielded ops a.tmps) = true then Oper.wp P o a (w.alloc (.cells #[.int k z] e)).drew K Q else E := by
  have h := step_append_one (E := E) (K := K) (Q := Q) (ops := ops) (w := w.drew) (z := z) hg s x t ho he (by exact hown) hs hx hsz hbase (by exact hblk) hne
    (fun A' c' w' h1 h2 h3 h4 => hK A' c' w' h1 ⟨h2.os, h2.tape, h2.output, h2.size, h2.block⟩ h3 h4)
  exact h
end Go.Proofs.YtpnodocjpedcmaaDoor.Kit

namespace Go.Proofs.YtpnodocjpedcmaaDoor.Sec
open Go.ChangeShapes Go.WideShapes Go.ChangeAt Go.RowKit Go.Proofs.YtpnodocjpedcmaaDoor.Kit Go.Maps

/-- Sectors: their numbers, rising; the bytes of each, or none, where it is torn. -/
abbrev Sl := List (Int × Option (List Int))
def putS : Sl → Int → Option (List Int) → Sl
  | [], k, o => [(k, o)]
  | (j, u) :: r, k, o => if k < j then (k, o) :: (j, u) :: r else if k = j then (k, o) :: r else (j, u) :: putS r k o
def getS : Sl → Int → Option (Option (List Int))
  | [], _ => none
  | (j, u) :: r, k => if j = k then some u else getS r k
def Up (l : Sl) : Prop := l.Pairwise (fun p q => p.1 < q.1)

theorem mem_putS {l : Sl} {k : Int} {o : Option (List Int)} {p : Int × Option (List Int)} (h : p ∈ putS l k o) : p = (k, o) ∨ p ∈ l := by
  induction l with
  | nil => simp [putS] at h; exact Or.inl h
  | cons q r ih =>
    obtain ⟨j, u⟩ := q
    unfold putS at h
    split at h
    · rcases List.mem_cons.1 h with h | h
      · exact Or.inl h
      · exact Or.inr h
    · split at h
      · rcases List.mem_cons.1 h with h | h
        · exact Or.inl h
        · exact Or.inr (List.mem_cons_of_mem _ h)
      · rcases List.mem_cons.1 h with h | h
        · exact Or.inr (h ▸ List.mem_cons_self)
        · rcases ih h with h | h
          · exact Or.inl h
          · exact Or.inr (List.mem_cons_of_mem _ h)
theorem up_nil : Up [] := List.Pairwise.nil
theorem Up.putS {l : Sl} (h : Up l) (k : Int) (o : Option (List Int)) : Up (putS l k o) := by
  induction l with
  | nil => exact List.pairwise_singleton _ _
  | cons q r ih =>
    obtain ⟨j, u⟩ := q
    obtain ⟨h1, h2⟩ := List.pairwise_cons.1 h
    unfold Sec.putS
    split
    · rename_i hk
      exact List.pairwise_cons.2 ⟨fun p hp => by
        rcases List.mem_cons.1 hp with rfl | hp
        · exact hk
        · have : j < p.1 := h1 p hp
          show k < p.1
          omega, h⟩
    · split
      · rename_i hk
        exact List.pairwise_cons.2 ⟨fun p hp => by have : j < p.1 := h1 p hp; show k < p.1; omega, h2⟩
      · exact List.pairwise_cons.2 ⟨fun p hp => by
          rcases mem_putS hp with rfl | hp
          · show j < k; omega
          · exact h1 p hp, ih h2⟩
theorem up_length {c : Int} : ∀ (l : Sl) (a : Int), Up l → (∀ p ∈ l, a ≤ p.1 ∧ p.1 < c) → (l.length : Int) ≤ max (c - a) 0
  | [], _, _, _ => by simp; omega
  | q :: r, a, h, hb => by
    obtain ⟨h1, h2⟩ := List.pairwise_cons.1 h
    have hq := hb q (by simp)
    have := up_length r (q.1 + 1) h2 (fun p hp => ⟨by have : q.1 < p.1 := h1 p hp; omega, (hb p (List.mem_cons_of_mem _ hp)).2⟩)
    simp only [List.length_cons, Int.natCast_add]
    omega

/-! ### in memory -/
def codeS (g m c : Nat) : DataW Unit := .agg [.lit (.int .i64 g), .lit (.int .i64 m), .lit (.int .i64 c)]
/-- How the bytes of a sector that waits read. -/
def RW (v : Value) : Option (DataW Unit × List MemPlace) :=
  match v with
  | .slice (some ⟨g, 0, none⟩) m c => some (codeS g m c, [])
  | .slice none 0 0 => some (.lit (.bool false), [])
  | _ => none
/-- How what is kept of a sector reads. -/
def RK (v : Value) : Option (DataW Unit × List MemPlace) :=
  match v with
  | .agg cs =>
    match cs.toList with
    | [.slice (some ⟨g, 0, none⟩) m c, .bool false] => some (codeS g m c, [])
    | [.slice none 0 0, .bool t] => some (.lit (.bool t), [])
    | _ => none
  | _ => none
theorem codeS_inj {g m c g' m' c' : Nat} (h : codeS g m c = codeS g' m' c') : g = g' ∧ m = m' ∧ c = c' := by
  unfold codeS at h
  simp at h
  omega
theorem RW_some {v : Value} {g m c : Nat} {ps : List MemPlace} (h : RW v = some (codeS g m c, ps)) : v = .slice (some ⟨g, 0, none⟩) m c := by
  unfold RW at h
  split at h
  · simp only [Option.some.injEq, Prod.mk.injEq] at h
    obtain ⟨rfl, rfl, rfl⟩ := codeS_inj h.1
    rfl
  · simp [codeS] at h
  · cases h
theorem RW_none {v : Value} {ps : List MemPlace} (h : RW v = some (.lit (.bool false), ps)) : v = .slice none 0 0 := by
  unfold RW at h
  split at h
  · simp [codeS] at h
  · rfl
  · cases h
theorem RK_some {v : Value} {g m c : Nat} {ps : List MemPlace} (h : RK v = some (codeS g m c, ps)) : v = .agg #[.slice (some ⟨g, 0, none⟩) m c, .bool false] := by
  unfold RK at h
  split at h
  · rename_i cs
    split at h
    · rename_i h2
      simp only [Option.some.injEq, Prod.mk.injEq] at h
      obtain ⟨rfl, rfl, rfl⟩ := codeS_inj h.1
      congr 1
      exact Array.toList_inj.1 h2
    · simp [codeS] at h
    · cases h
  · cases h
theorem RK_lit {v : Value} {t : Bool} {ps : List MemPlace} (h : RK v = some (.lit (.bool t), ps)) : v = .agg #[.slice none 0 0, .bool t] := by
  unfold RK at h
  split at h
  · rename_i cs
    split at h
    · simp [codeS] at h
    · rename_i h2
      simp only [Option.some.injEq, Prod.mk.injEq, DataW.lit.injEq, Lit.bool.injEq] at h
      obtain ⟨rfl, _⟩ := h
      congr 1
      exact Array.toList_inj.1 h2
    · cases h
  · cases h

/-- An entry of a map is a sector of the list. -/
def Tie (w : World) (I : Nat → Prop) (n : Nat) (p : Lit × DataW Unit) (q : Int × Option (List Int)) : Prop :=
  p.1 = .int .i64 q.1 ∧ match q.2 with
    | some xs => ∃ g c, p.2 = codeS g n c ∧ xs.length = n ∧ Octets xs ∧ I g ∧ Own w 0 5 .u8 (.slice (some ⟨g, 0, none⟩) n c) xs
    | none => p.2 = .lit (.bool true)
inductive Ties (w : World) (I : Nat → Prop) (n : Nat) : List (Lit × DataW Unit) → Sl → Prop
  | nil : Ties w I n [] []
  | cons {p q es l} : Tie w I n p q → Ties w I n es l → Ties w I n (p :: es) (q :: l)
theorem Ties.length {w : World} {I : Nat → Prop} {n : Nat} {es : List (Lit × DataW Unit)} {l : Sl} (h : Ties w I n es l) : es.length = l.length := by
  induction h with
  | nil => rfl
  | cons _ _ ih => simp [ih]

theorem same_int (j k : Int) : (Lit.int .i64 j).sameKey (.int .i64 k) = decide (j = k) := by simp [Lit.sameKey]
theorem before_int (j k : Int) : (Lit.int .i64 j).before (.int .i64 k) = decide (j < k) := rfl

/-- Where all numbers are above k, no entry is k's. -/
theorem Ties.none_same {w : World} {I : Nat → Prop} {n : Nat} {es : List (Lit × DataW Unit)} {l : Sl} (h : Ties w I n es l) (k : Int) (hk : ∀ p ∈ l, k < p.1) : es.filter (fun p => !p.1.sameKey (.int .i64 k)) = es := by
  induction h with
  | nil => rfl
  | @cons p q es l ht _ ih =>
    have hq := hk q (by simp)
    rw [List.filter_cons, ht.1, same_int, decide_eq_false (by omega), ih (fun x hx => hk x (List.mem_cons_of_mem _ hx))]
    rfl
theorem Ties.insert_front {w : World} {I : Nat → Prop} {n : Nat} {es : List (Lit × DataW Unit)} {l : Sl} (h : Ties w I n es l) (k : Int) (d : DataW Unit) (hk : ∀ p ∈ l, k < p.1) : DataW.insert (.int .i64 k, d) es = (.int .i64 k, d) :: es := by
  cases h with
  | nil => rfl
  | @cons p q es l ht _ =>
    have hq := hk q (by simp)
    unfold DataW.insert
    rw [ht.1]
    rw [before_int, decide_eq_true hq]
    rfl

theorem Ties.put {w : World} {I : Nat → Prop} {n : Nat} {es : List (Lit × DataW Unit)} {l : Sl} (h : Ties w I n es l) (hu : Up l) (k : Int) (d : DataW Unit) (o : Option (List Int)) (ht : Tie w I n (.int .i64 k, d) (k, o)) :
    Ties w I n (DataW.insert (.int .i64 k, d) (es.filter fun p => !p.1.sameKey (.int .i64 k))) (putS l k o) := by
  induction h with
  | nil => exact .cons ht .nil
  | @cons p q es l hp hr ih =>
    obtain ⟨j, u⟩ := q
    obtain ⟨h1, h2⟩ := List.pairwise_cons.1 hu
    have hp1 : p.1 = .int .i64 j := hp.1
    rw [List.filter_cons, hp1, same_int]
    unfold putS
    by_cases c1 : k < j
    · rw [if_pos c1, decide_eq_false (by omega), hr.none_same k (fun x hx => by have : j < x.1 := h1 x hx; omega)]
      show Ties w I n (DataW.insert _ (p :: es)) _
      unfold DataW.insert
      rw [hp1, before_int, decide_eq_true c1]
      exact .cons ht (.cons hp hr)
    · by_cases c2 : k = j
      · rw [if_neg c1, if_pos c2, decide_eq_true c2.symm, hr.none_same k (fun x hx => by have : j < x.1 := h1 x hx; omega)]
        show Ties w I n (DataW.insert _ es) _
        rw [hr.insert_front k d (fun x hx => by have : j < x.1 := h1 x hx; omega)]
        exact .cons ht hr
      · rw [if_neg c1, if_neg c2, decide_eq_false (fun e => c2 e.symm)]
        show Ties w I n (DataW.insert _ (p :: _)) _
        unfold DataW.insert
        rw [hp1, before_int, decide_eq_false (by omega)]
        exact .cons hp (ih h2)

theorem atKey_map (es : List (Lit × DataW Unit)) (k : Lit) (z : DataW Unit) : (DataW.map es).atKey k z = ((es.find? (fun p => p.1.sameKey k)).map (·.2)).getD z := by
  unfold DataW.atKey
  simp only
  split
  · rename_i h; rw [h]; rfl
  · rename_i h; rw [h]; rfl

theorem Ties.get_yes {w : World} {I : Nat → Prop} {n : Nat} {es : List (Lit × DataW Unit)} {l : Sl} (h : Ties w I n es l) (k : Int) (o : Option (List Int)) (hg : getS l k = some o) :
    Maps.has (.map es) (.int .i64 k) = true ∧ ∃ d, (∀ z, (DataW.map es).atKey (.int .i64 k) z = d) ∧ Tie w I n (.int .i64 k, d) (k, o) := by
  induction h with
  | nil => cases hg
  | @cons p q es l hp hr ih =>
    obtain ⟨j, u⟩ := q
    have hp1 : p.1 = .int .i64 j := hp.1
    unfold getS at hg
    rw [Maps.has_eq, List.any_cons, hp1, same_int]
    by_cases c : j = k
    · subst c
      rw [if_pos rfl] at hg
      injection hg with hg
      subst hg
      refine ⟨by simp, p.2, fun z => ?_, by rw [← hp1]; exact hp⟩
      rw [atKey_map, List.find?_cons, hp1, same_int]
      simp
    · rw [if_neg c] at hg
      obtain ⟨h1, d, h2, h3⟩ := ih hg
      rw [Maps.has_eq] at h1
      refine ⟨by rw [h1]; simp, d, fun z => ?_, h3⟩
      rw [atKey_map, List.find?_cons, hp1, same_int, decide_eq_false c, ← h2 z, atKey_map]
theorem Ties.get_no {w : World} {I : Nat → Prop} {n : Nat} {es : List (Lit × DataW Unit)} {l : Sl} (h : Ties w I n es l) (k : Int) (hg : getS l k = none) :
    Maps.has (.map es) (.int .i64 k) = false ∧ ∀ z, (DataW.map es).atKey (.int .i64 k) z = z := by
  induction h with
  | nil => exact ⟨rfl, fun _ => rfl⟩
  | @cons p q es l hp hr ih =>
    obtain ⟨j, u⟩ := q
    have hp1 : p.1 = .int .i64 j := hp.1
    unfold getS at hg
    rw [Maps.has_eq, List.any_cons, hp1, same_int]
    by_cases c : j = k
    · rw [if_pos c] at hg; cases hg
    · rw [if_neg c] at hg
      obtain ⟨h1, h2⟩ := ih hg
      rw [Maps.has_eq] at h1
      refine ⟨by rw [h1]; simp [c], fun z => ?_⟩
      rw [atKey_map, List.find?_cons, hp1, same_int, decide_eq_false c]
      have := h2 z
      rw [atKey_map] at this
      exact this

/-- The rows of a list stay, where no map or other block of the call's own is a row. -/
theorem Tie.out {S : Nat → Prop} {w w' : World} {I : Nat → Prop} {n : Nat} {p : Lit × DataW Unit} {q : Int × Option (List Int)} (h : Tie w I n p q) (t : TurnsIn S w w') (hS : ∀ b, S b → I b → ∀ cs f, w.heap[b]? ≠ some (.cells cs 5 f)) : Tie w' I n p q := by
  obtain ⟨h1, h2⟩ := h
  refine ⟨h1, ?_⟩
  cases hq : q.2 with
  | none => rw [hq] at h2; exact h2
  | some xs =>
    rw [hq] at h2
    obtain ⟨g, c, e1, e2, e3, eI, e4⟩ := h2
    refine ⟨g, c, e1, e2, e3, eI, e4.out t fun x hx hs => ?_⟩
    have hxg : g = x := by simpa [Value.ownBlock] using hx
    subst hxg
    rcases e4.2 with ⟨h0, _⟩ | ⟨g', cap, cur, he, _, hg, _⟩
    · cases h0
    · injection he with he _
      injection he with he
      injection he with he
      exact hS g hs eI _ _ (he ▸ hg)
theorem Ties.out {S : Nat → Prop} {w w' : World} {I : Nat → Prop} {n : Nat} {es : List (Lit × DataW Unit)} {l : Sl} (h : Ties w I n es l) (t : TurnsIn S w w') (hS : ∀ b, S b → I b → ∀ cs f, w.heap[b]? ≠ some (.cells cs 5 f)) : Ties w' I n es l := by
  induction h with
  | nil => exact .nil
  | cons hp _ ih => exact .cons (hp.out t hS) ih
theorem Tie.mono {w : World} {I J : Nat → Prop} {n : Nat} {p : Lit × DataW Unit} {q : Int × Option (List Int)} (h : Tie w I n p q) (hJ : ∀ g, g < w.heap.size → I g → J g) : Tie w J n p q := by
  obtain ⟨h1, h2⟩ := h
  refine ⟨h1, ?_⟩
  cases hq : q.2 with
  | none => rw [hq] at h2; exact h2
  | some xs =>
    rw [hq] at h2
    obtain ⟨g, c, e1, e2, e3, eI, e4⟩ := h2
    exact ⟨g, c, e1, e2, e3, hJ g (e4.lt g rfl).2 eI, e4⟩
theorem Ties.mono {w : World} {I J : Nat → Prop} {n : Nat} {es : List (Lit × DataW Unit)} {l : Sl} (h : Ties w I n es l) (hJ : ∀ g, g < w.heap.size → I g → J g) : Ties w J n es l := by
  induction h with
  | nil => exact .nil
  | cons hp _ ih => exact .cons (hp.mono hJ) ih
end Go.Proofs.YtpnodocjpedcmaaDoor.Sec

namespace Go.Proofs.YtpnodocjpedcmaaDoor.Sec
open Go.ChangeShapes Go.WideShapes Go.ChangeAt Go.RowKit Go.Proofs.YtpnodocjpedcmaaDoor.Kit Go.Maps

theorem len_ok {n : Nat} (h : n < 1000000000) : n < maxLen := by unfold maxLen; omega
theorem keyI : Keyed Tryd.prog 3 := int_keyed Tryd.underlying3
theorem key_of {k : Int} (h : -9223372036854775808 ≤ k ∧ k ≤ 9223372036854775807) : keyOf Tryd.prog 3 (.int .i64 k) = some (.int .i64 k) :=
  keyOf_int_mk Tryd.underlying3 (WalkArith.wf_i64 h)
theorem zeroW (w : World) : (zeroValue 22).run Tryd.prog w = .ok (.slice none 0 0) w := by kernel_rfl
theorem zeroK (w : World) : (zeroValue 103).run Tryd.prog w = .ok (.agg #[.slice none 0 0, .bool false]) w := by kernel_rfl
theorem RW_zero : RW (.slice none 0 0) = some (.lit (.bool false), []) := rfl
theorem RK_zero : RK (.agg #[.slice none 0 0, .bool false]) = some (.lit (.bool false), []) := rfl

/-- Block b is a map of these sectors, all of n bytes. -/
def MapAt (w : World) (I : Nat → Prop) (R : Value → Option (DataW Unit × List MemPlace)) (b n : Nat) (l : Sl) : Prop :=
  ∃ es, w.ownsMap Tryd.prog 3 R b l.length (.map es) ∧ Ties w I n es l
theorem MapAt.mono {w : World} {I J : Nat → Prop} {R : Value → Option (DataW Unit × List MemPlace)} {b n : Nat} {l : Sl} (h : MapAt w I R b n l) (hJ : ∀ g, g < w.heap.size → I g → J g) : MapAt w J R b n l := by
  obtain ⟨es, h1, h2⟩ := h
  exact ⟨es, h1, h2.mono hJ⟩
theorem MapAt.lt {w : World} {I : Nat → Prop} {R : Value → Option (DataW Unit × List MemPlace)} {b n : Nat} {l : Sl} (h : MapAt w I R b n l) : b < w.heap.size := by
  obtain ⟨es, h1, _⟩ := h
  exact h1.lt
theorem MapAt.no_row {w : World} {I : Nat → Prop} {R : Value → Option (DataW Unit × List MemPlace)} {b n : Nat} {l : Sl} (h : MapAt w I R b n l) (cs : Array Value) (t : TypeId) (f : Nat × Nat) : w.heap[b]? ≠ some (.cells cs t f) := by
  obtain ⟨es, ⟨e1, c1, h1, _⟩, _⟩ := h
  rw [h1]
  intro e
  injection e with e
  cases e
theorem ownsMap_tight {w : World} {R : Value → Option (DataW Unit × List MemPlace)} {b n : Nat} {es : List (Lit × DataW Unit)} (h : w.ownsMap Tryd.prog 3 R b n (.map es)) : w.ownsMap Tryd.prog 3 R b es.length (.map es) := by
  obtain ⟨e1, c1, h1, F, hs, hD⟩ := h
  refine ⟨e1, c1, h1, F, ?_, hD⟩
  injection hD with hD
  rw [hD, length_sorted]
  simp
theorem MapAt.of {w : World} {I : Nat → Prop} {R : Value → Option (DataW Unit × List MemPlace)} {b n N : Nat} {es : List (Lit × DataW Unit)} {l : Sl} (h : w.ownsMap Tryd.prog 3 R b N (.map es)) (t : Ties w I n es l) : MapAt w I R b n l := by
  refine ⟨es, ?_, t⟩
  have := ownsMap_tight h
  rw [t.length] at this
  exact this
theorem MapAt.made (w : World) (I : Nat → Prop) (R : Value → Option (DataW Unit × List MemPlace)) (n : Nat) : MapAt (w.alloc (.map #[] 0)) I R w.heap.size n [] :=
  ⟨[], World.ownsMap_made _ _ _ _, .nil⟩
/-- A map stays while other blocks, none of them a row of bytes, turn. -/
theorem MapAt.out {S : Nat → Prop} {w w' : World} {I : Nat → Prop} {R : Value → Option (DataW Unit × List MemPlace)} {b n : Nat} {l : Sl} (h : MapAt w I R b n l) (t : TurnsIn S w w') (hb : ¬ S b) (hS : ∀ b, S b → I b → ∀ cs f, w.heap[b]? ≠ some (.cells cs 5 f)) : MapAt w' I R b n l := by
  obtain ⟨es, ⟨e1, c1, h1, r⟩, h2⟩ := h
  exact ⟨es, ⟨e1, c1, (t.block b (Array.getElem?_eq_some_iff.1 h1).1 hb).trans h1, r⟩, h2.out t hS⟩

/-- The block of a row of bytes is no map. -/
theorem row_not_map {w : World} {I : Nat → Prop} {R : Value → Option (DataW Unit × List MemPlace)} {b n : Nat} {l : Sl} (h : MapAt w I R b n l) : ∀ x, x = b → ∀ cs f, w.heap[x]? ≠ some (.cells cs 5 f) := by
  rintro x rfl cs f
  exact h.no_row cs _ f

section
variable {w : World} {I : Nat → Prop} {b n : Nat} {l : Sl}

theorem MapAt.look_yes (h : MapAt w I RW b n l) (k : Int) (hk : -9223372036854775808 ≤ k ∧ k ≤ 9223372036854775807) (xs : List Int) (hg : getS l k = some (some xs)) (c : Bool) :
    ∃ g m, (Instr.lookup 89 (.map (some b)) (.int .i64 k) c).run Tryd.prog w = .ok (if c then .tuple #[.slice (some ⟨g, 0, none⟩) n m, .bool true] else .slice (some ⟨g, 0, none⟩) n m) w ∧ xs.length = n ∧ Octets xs ∧ I g ∧ Own w 0 5 .u8 (.slice (some ⟨g, 0, none⟩) n m) xs := by
  obtain ⟨es, h1, h2⟩ := h
  obtain ⟨a1, d, a2, _, a3⟩ := h2.get_yes k _ hg
  obtain ⟨g, m, e1, e2, e3, eI, e4⟩ := a3
  obtain ⟨v, ps, hr, hv⟩ := h1.look_ok keyI Tryd.underlying89 (zeroW w) RW_zero (key_of hk)
  obtain ⟨v', ps', hr', hv'⟩ := h1.lookup keyI Tryd.underlying89 (zeroW w) RW_zero (key_of hk)
  rw [a2] at hv hv'
  change d = codeS g n m at e1
  subst e1
  obtain rfl := RW_some hv
  obtain rfl := RW_some hv'
  refine ⟨g, m, ?_, e2, e3, eI, e4⟩
  cases c with
  | true => rw [hr, a1]; rfl
  | false => rw [hr']; rfl
theorem MapAt.look_no (h : MapAt w I RW b n l) (k : Int) (hk : -9223372036854775808 ≤ k ∧ k ≤ 9223372036854775807) (hg : getS l k = none) :
    (Instr.lookup 89 (.map (some b)) (.int .i64 k) true).run Tryd.prog w = .ok (.tuple #[.slice none 0 0, .bool false]) w := by
  obtain ⟨es, h1, h2⟩ := h
  obtain ⟨a1, a2⟩ := h2.get_no k hg
  obtain ⟨v, ps, hr, hv⟩ := h1.look_ok keyI Tryd.underlying89 (zeroW w) RW_zero (key_of hk)
  rw [a2] at hv
  obtain rfl := RW_none hv
  rw [hr, a1]
theorem MapAt.kept_yes (h : MapAt w I RK b n l) (k : Int) (hk : -9223372036854775808 ≤ k ∧ k ≤ 9223372036854775807) (xs : List Int) (hg : getS l k = some (some xs)) :
    ∃ g m, (Instr.lookup 88 (.map (some b)) (.int .i64 k) true).run Tryd.prog w = .ok (.tuple #[.agg #[.slice (some ⟨g, 0, none⟩) n m, .bool false], .bool true]) w ∧ xs.length = n ∧ Octets xs ∧ I g ∧ Own w 0 5 .u8 (.slice (some ⟨g, 0, none⟩) n m) xs := by
  obtain ⟨es, h1, h2⟩ := h
  obtain ⟨a1, d, a2, _, a3⟩ := h2.get_yes k _ hg
  obtain ⟨g, m, e1, e2, e3, eI, e4⟩ := a3
  obtain ⟨v, ps, hr, hv⟩ := h1.look_ok keyI Tryd.underlying88 (zeroK w) RK_zero (key_of hk)
  rw [a2] at hv
  change d = codeS g n m at e1
  subst e1
  obtain rfl := RK_some hv
  exact ⟨g, m, by rw [hr, a1], e2, e3, eI, e4⟩
theorem MapAt.kept_torn (h : MapAt w I RK b n l) (k : Int) (hk : -9223372036854775808 ≤ k ∧ k ≤ 9223372036854775807) (hg : getS l k = some none) :
    (Instr.lookup 88 (.map (some b)) (.int .i64 k) true).run Tryd.prog w = .ok (.tuple #[.agg #[.slice none 0 0, .bool true], .bool true]) w := by
  obtain ⟨es, h1, h2⟩ := h
  obtain ⟨a1, d, a2, _, a3⟩ := h2.get_yes k _ hg
  change d = .lit (.bool true) at a3
  obtain ⟨v, ps, hr, hv⟩ := h1.look_ok keyI Tryd.underlying88 (zeroK w) RK_zero (key_of hk)
  rw [a2, a3] at hv
  obtain rfl := RK_lit hv
  rw [hr, a1]
theorem MapAt.kept_no (h : MapAt w I RK b n l) (k : Int) (hk : -9223372036854775808 ≤ k ∧ k ≤ 9223372036854775807) (hg : getS l k = none) :
    (Instr.lookup 88 (.map (some b)) (.int .i64 k) true).run Tryd.prog w = .ok (.tuple #[.agg #[.slice none 0 0, .bool false], .bool false]) w := by
  obtain ⟨es, h1, h2⟩ := h
  obtain ⟨a1, a2⟩ := h2.get_no k hg
  obtain ⟨v, ps, hr, hv⟩ := h1.look_ok keyI Tryd.underlying88 (zeroK w) RK_zero (key_of hk)
  rw [a2] at hv
  obtain rfl := RK_lit hv
  rw [hr, a1]

/-- A value that an entry may hold. -/
def GoodV (w : World) (I : Nat → Prop) (R : Value → Option (DataW Unit × List MemPlace)) (n : Nat) (v : Value) (o : Option (List Int)) : Prop := ∃ d, R v = some (d, []) ∧ ∀ k, Tie w I n (.int .i64 k, d) (k, o)
theorem GoodV.waits {w : World} {I : Nat → Prop} {n g m : Nat} {xs : List Int} (hI : I g) (hl : xs.length = n) (ho : Octets xs) (h : Own w 0 5 .u8 (.slice (some ⟨g, 0, none⟩) n m) xs) : GoodV w I RW n (.slice (some ⟨g, 0, none⟩) n m) (some xs) :=
  ⟨codeS g n m, rfl, fun _ => ⟨rfl, g, m, rfl, hl, ho, hI, h⟩⟩
theorem GoodV.kept {w : World} {I : Nat → Prop} {n g m : Nat} {xs : List Int} (hI : I g) (hl : xs.length = n) (ho : Octets xs) (h : Own w 0 5 .u8 (.slice (some ⟨g, 0, none⟩) n m) xs) : GoodV w I RK n (.agg #[.slice (some ⟨g, 0, none⟩) n m, .bool false]) (some xs) :=
  ⟨codeS g n m, rfl, fun _ => ⟨rfl, g, m, rfl, hl, ho, hI, h⟩⟩
theorem GoodV.torn {w : World} {I : Nat → Prop} {n : Nat} : GoodV w I RK n (.agg #[.slice none 0 0, .bool true]) none :=
  ⟨.lit (.bool true), rfl, fun _ => ⟨rfl, rfl⟩⟩

theorem MapAt.store {R : Value → Option (DataW Unit × List MemPlace)} {t e : TypeId} (ht : Tryd.prog.underlying t = some (.map 3 e)) (h : MapAt w I R b n l) (hu : Up l) (hm : l.length < 1000000000) (k : Int) (hk : -9223372036854775808 ≤ k ∧ k ≤ 9223372036854775807) (v : Value) (o : Option (List Int)) (hv : GoodV w I R n v o) :
    ∃ w', (Instr.mapUpdate t (.map (some b)) (.int .i64 k) v).run Tryd.prog w = .ok () w' ∧ MapAt w' I R b n (putS l k o) ∧ w.mapTurned w' b := by
  have h' := h
  obtain ⟨es, h1, h2⟩ := h
  obtain ⟨d, hd, htie⟩ := hv
  obtain ⟨w', hr, ho, ht'⟩ := h1.store keyI ht (len_ok hm) (key_of hk) hd
  have tn : TurnsIn (fun x => x = b) w w' := TurnsIn.ofGrown (row := some b) ht'.grown fun x hx => (Option.some.inj hx).symm
  refine ⟨w', hr, MapAt.of ho ?_, ht'⟩
  exact (h2.put hu k d o (htie k)).out tn (fun x hx _ cs f => row_not_map h' x hx cs f)
end
end Go.Proofs.YtpnodocjpedcmaaDoor.Sec

namespace Go.Proofs.YtpnodocjpedcmaaDoor.Sec
open Go.ChangeShapes Go.WideShapes Go.ChangeAt Go.RowKit Go.Proofs.YtpnodocjpedcmaaDoor.Kit Go.Maps

/-- A device. -/
structure Dv where
  size : Nat
  count : Nat
  kept : Sl
  waits : Sl
  off : Bool
  offs : Int
  fuse : Int
  wr : Int
structure Dv.Ok (s : Dv) : Prop where
  s1 : 128 ≤ s.size
  s2 : s.size ≤ 4096
  c1 : 1 ≤ s.count
  c2 : s.count ≤ 1048576
  ku : Up s.kept
  wu : Up s.waits
  kr : ∀ p ∈ s.kept, 0 ≤ p.1 ∧ p.1 < s.count
  wr_ : ∀ p ∈ s.waits, 0 ≤ p.1 ∧ p.1 < s.count
  wn : ∀ p ∈ s.waits, p.2 ≠ none
  f1 : -1 ≤ s.fuse
  f2 : s.fuse ≤ 9223372036854775807
  o1 : 0 ≤ s.offs
  w1 : 0 ≤ s.wr
def Dv.cells (s : Dv) (mk mw : Nat) : Array Value :=
  #[.int .i64 s.size, .int .i64 s.count, .map (some mk), .map (some mw), .bool s.off, .int .i64 s.offs, .int .i64 s.fuse, .int .u64 s.wr]
/-- A device lies in memory: itself in a, what is kept in mk, what waits in mw; its rows of bytes lie in blocks of I. -/
structure DvAt (w : World) (I : Nat → Prop) (a mk mw : Nat) (s : Dv) : Prop where
  blk : Block w a 91 (s.cells mk mw)
  k : MapAt w I RK mk s.size s.kept
  wt : MapAt w I RW mw s.size s.waits
  ne : mk ≠ mw
  ok : s.Ok
/-- A device's blocks. -/
def DSet (a mk mw b : Nat) : Prop := b = a ∨ b = mk ∨ b = mw

section
variable {w w' : World} {I J : Nat → Prop} {a mk mw : Nat} {s : Dv}
theorem DvAt.lt (h : DvAt w I a mk mw s) : a < w.heap.size ∧ mk < w.heap.size ∧ mw < w.heap.size := ⟨h.blk.lt, h.k.lt, h.wt.lt⟩
theorem DvAt.mono (h : DvAt w I a mk mw s) (hJ : ∀ g, g < w.heap.size → I g → J g) : DvAt w J a mk mw s := ⟨h.blk, h.k.mono hJ, h.wt.mono hJ, h.ne, h.ok⟩
theorem DvAt.no_row (h : DvAt w I a mk mw s) : ∀ b, DSet a mk mw b → ∀ cs f, w.heap[b]? ≠ some (.cells cs 5 f) := by
  rintro b (rfl | rfl | rfl) cs f
  · intro e
    have := h.blk
    unfold Block at this
    rw [this] at e
    injection e with e
    injection e with _ e _
    exact absurd e (by decide)
  · exact h.k.no_row _ _ _
  · exact h.wt.no_row _ _ _
theorem DvAt.ne_k (h : DvAt w I a mk mw s) : a ≠ mk := by
  rintro rfl
  exact h.k.no_row _ _ _ h.blk
theorem DvAt.ne_w (h : DvAt w I a mk mw s) : a ≠ mw := by
  rintro rfl
  exact h.wt.no_row _ _ _ h.blk
/-- It stays while other blocks turn. -/
theorem DvAt.out {S : Nat → Prop} (h : DvAt w I a mk mw s) (t : TurnsIn S w w') (h1 : ¬ S a) (h2 : ¬ S mk) (h3 : ¬ S mw) (hS : ∀ b, S b → I b → ∀ cs f, w.heap[b]? ≠ some (.cells cs 5 f)) : DvAt w' I a mk mw s :=
  ⟨h.blk.out t h1, h.k.out t h2 hS, h.wt.out t h3 hS, h.ne, h.ok⟩
theorem DvAt.below (h : DvAt w I a mk mw s) (hb : Below w.heap.size w w') : DvAt w' I a mk mw s :=
  h.out (S := fun _ => False) (.ofNew hb) id id id fun _ hf => hf.elim
theorem DvAt.alloc (h : DvAt w I a mk mw s) (o : Obj) : DvAt (w.alloc o) I a mk mw s := h.below ((Below.refl _ _).alloc (Nat.le_refl _) _)
/-- A field is stored. -/
theorem DvAt.field (h : DvAt w I a mk mw s) (i : Nat) (u : Value) (s' : Dv) (hc : (s.cells mk mw).setIfInBounds i u = s'.cells mk mw) (hk : s'.kept = s.kept) (hw : s'.waits = s.waits) (hs : s'.size = s.size) (ok : s'.Ok) :
    DvAt (w.setCell ⟨a, i, none⟩ u) I a mk mw s' ∧ TurnsIn (DSet a mk mw) w (w.setCell ⟨a, i, none⟩ u) := by
  have t : TurnsIn (fun b => b = a) w (w.setCell ⟨a, i, none⟩ u) := TurnsIn.setCell (S := fun b => b = a) (p := ⟨a, i, none⟩) (TurnsIn.refl _ w) (Or.inl rfl) u
  have hr : ∀ b, b = a → I b → ∀ cs f, w.heap[b]? ≠ some (.cells cs 5 f) := fun b hb _ => h.no_row b (Or.inl hb)
  refine ⟨⟨by rw [← hc]; exact h.blk.set_ i u, ?_, ?_, h.ne, ok⟩, t.mono fun b _ hb => Or.inl hb⟩
  · rw [hk, hs]; exact h.k.out t (fun e => h.ne_k e.symm) hr
  · rw [hw, hs]; exact h.wt.out t (fun e => h.ne_w e.symm) hr
/-- The cells, to be read. -/
theorem DvAt.reads (h : DvAt w I a mk mw s) :
    w.cell? ⟨a, 0, none⟩ = some (.int .i64 s.size) ∧ w.cell? ⟨a, 1, none⟩ = some (.int .i64 s.count) ∧ w.cell? ⟨a, 2, none⟩ = some (.map (some mk)) ∧ w.cell? ⟨a, 3, none⟩ = some (.map (some mw)) ∧ w.cell? ⟨a, 4, none⟩ = some (.bool s.off) ∧ w.cell? ⟨a, 5, none⟩ = some (.int .i64 s.offs) ∧ w.cell? ⟨a, 6, none⟩ = some (.int .i64 s.fuse) ∧ w.cell? ⟨a, 7, none⟩ = some (.int .u64 s.wr) :=
  ⟨h.blk.cell 0, h.blk.cell 1, h.blk.cell 2, h.blk.cell 3, h.blk.cell 4, h.blk.cell 5, h.blk.cell 6, h.blk.cell 7⟩
theorem DvAt.free (h : DvAt w I a mk mw s) (i : Nat) : w.frozen? ⟨a, i, none⟩ = false := h.blk.frozen i
end

/-! ### methods that read -/
theorem size_any (I : Nat → Prop) (a mk mw : Nat) (s : Dv) (w : World) (h : DvAt w I a mk mw s) : Calls Tryd.prog 57 #[.pointer (some ⟨a, 0, none⟩)] w fun e w' => e = .returned (.int .i64 s.size) ∧ w = w' := by
  obtain ⟨c0, c1, c2, c3, c4, c5, c6, c7⟩ := h.reads
  clear h
  go_enter Tryd.func57, Tryd.ntmps57
  go_wp2
  go_ret
  exact ⟨rfl, rfl⟩
theorem count_any (I : Nat → Prop) (a mk mw : Nat) (s : Dv) (w : World) (h : DvAt w I a mk mw s) : Calls Tryd.prog 58 #[.pointer (some ⟨a, 0, none⟩)] w fun e w' => e = .returned (.int .i64 s.count) ∧ w = w' := by
  obtain ⟨c0, c1, c2, c3, c4, c5, c6, c7⟩ := h.reads
  clear h
  go_enter Tryd.func58, Tryd.ntmps58
  go_wp2
  go_ret
  exact ⟨rfl, rfl⟩
theorem isOn_any (I : Nat → Prop) (a mk mw : Nat) (s : Dv) (w : World) (h : DvAt w I a mk mw s) : Calls Tryd.prog 41 #[.pointer (some ⟨a, 0, none⟩)] w fun e w' => e = .returned (.bool (!s.off)) ∧ w = w' := by
  obtain ⟨c0, c1, c2, c3, c4, c5, c6, c7⟩ := h.reads
  clear h
  go_enter Tryd.func41, Tryd.ntmps41
  go_wp2
  go_ret
  exact ⟨rfl, rfl⟩
theorem writes_any (I : Nat → Prop) (a mk mw : Nat) (s : Dv) (w : World) (h : DvAt w I a mk mw s) : Calls Tryd.prog 32 #[.pointer (some ⟨a, 0, none⟩)] w fun e w' => e = .returned (.int .u64 s.wr) ∧ w = w' := by
  obtain ⟨c0, c1, c2, c3, c4, c5, c6, c7⟩ := h.reads
  clear h
  go_enter Tryd.func32, Tryd.ntmps32
  go_wp2
  go_ret
  exact ⟨rfl, rfl⟩
theorem MapAt.len {w : World} {I : Nat → Prop} {R : Value → Option (DataW Unit × List MemPlace)} {b n : Nat} {l : Sl} {t e : TypeId} (ht : Tryd.prog.underlying t = some (.map 3 e)) (h : MapAt w I R b n l) (ty : TypeId) : (Builtin.len_ #[t] ty #[.map (some b)]).run Tryd.prog w = .ok (.int .i64 l.length) w := by
  obtain ⟨es, h1, h2⟩ := h
  rw [h1.len ht ty, ← h2.length]
  rfl
theorem waits_any (I : Nat → Prop) (a mk mw : Nat) (s : Dv) (w : World) (h : DvAt w I a mk mw s) : Calls Tryd.prog 31 #[.pointer (some ⟨a, 0, none⟩)] w fun e w' => e = .returned (.int .i64 s.waits.length) ∧ w = w' := by
  obtain ⟨c0, c1, c2, c3, c4, c5, c6, c7⟩ := h.reads
  have hl := fun ty => h.wt.len Tryd.underlying89 ty
  clear h
  go_enter Tryd.func31, Tryd.ntmps31
  go_wp2
  go_ret
  exact ⟨rfl, rfl⟩
end Go.Proofs.YtpnodocjpedcmaaDoor.Sec

namespace Go.Proofs.YtpnodocjpedcmaaDoor.Sec
open Go.ChangeShapes Go.WideShapes Go.ChangeAt Go.RowKit Go.Proofs.YtpnodocjpedcmaaDoor.Kit Go.Maps

/-- It goes off. -/
def Dv.down (s : Dv) : Dv := if s.off = true then s else { s with off := true, offs := s.offs + 1 }
/-- A call counted of the fuse. -/
def Dv.tick (s : Dv) : Dv := if s.fuse = -1 then s else if s.fuse = 0 then s.down else { s with fuse := s.fuse - 1 }
def Dv.blown (s : Dv) : Bool := decide (s.fuse = 0)
def Dv.fused (s : Dv) (n : Int) : Dv := { s with fuse := max n 0 }
theorem Dv.Ok.down {s : Dv} (h : s.Ok) : s.down.Ok := by
  unfold Dv.down
  split
  · exact h
  · exact ⟨h.s1, h.s2, h.c1, h.c2, h.ku, h.wu, h.kr, h.wr_, h.wn, h.f1, h.f2, by have := h.o1; show 0 ≤ s.offs + 1; omega, h.w1⟩
/-- What a step leaves of a device: it lies where it lay, and only its own blocks have turned. -/
def Leaves (I : Nat → Prop) (a mk mw : Nat) (w : World) (s' : Dv) (v : Value) (e : Ending) (w' : World) : Prop :=
  e = .returned v ∧ DvAt w' I a mk mw s' ∧ TurnsIn (DSet a mk mw) w w'

set_option maxHeartbeats 1600000 in
theorem off_any (I : Nat → Prop) (a mk mw : Nat) (s : Dv) (w : World) (h : DvAt w I a mk mw s) (hb : s.offs ≤ 1000000000) :
    Calls Tryd.prog 20 #[.pointer (some ⟨a, 0, none⟩)] w (Leaves I a mk mw w s.down (.tuple #[])) := by
  have GI := Lib.hid (isOn_any I a mk mw s w h)
  have ho := h.ok.o1
  have hh := h.ok
  unfold Dv.down
  cases hoff : s.off with
  | true =>
    rw [if_pos rfl]
    rw [hoff] at GI
    clear ho hh hb
    go_enter Tryd.func20, Tryd.ntmps20
    go_wp2_with (go_at_call 41; (with_reducible refine GI.out.mono ?_); rintro e w1 ⟨rfl, rfl⟩)
    exact bodyPost_end (results_none rfl _ _ _) rfl ⟨rfl, h, TurnsIn.refl _ _⟩
  | false =>
    rw [if_neg (by decide)]
    rw [hoff] at GI
    have H1 := h.field 4 (.bool true) { s with off := true } rfl rfl rfl rfl ⟨hh.s1, hh.s2, hh.c1, hh.c2, hh.ku, hh.wu, hh.kr, hh.wr_, hh.wn, hh.f1, hh.f2, hh.o1, hh.w1⟩
    obtain ⟨D1, T1⟩ := H1
    have H2 := D1.field 5 (.int .i64 (s.offs + 1)) { s with off := true, offs := s.offs + 1 } rfl rfl rfl rfl ⟨hh.s1, hh.s2, hh.c1, hh.c2, hh.ku, hh.wu, hh.kr, hh.wr_, hh.wn, hh.f1, hh.f2, by show 0 ≤ s.offs + 1; omega, hh.w1⟩
    obtain ⟨D2, T2⟩ := H2
    obtain ⟨c0, c1, c2, c3, c4, c5, c6, c7⟩ := h.reads
    obtain ⟨d0, d1, d2, d3, d4, d5, d6, d7⟩ := D1.reads
    have f4 := h.free 4
    have f5 := D1.free 5
    have HD := Lib.hid D2
    have HT := Lib.hid (T1.trans T2)
    simp only at d0 d1 d2 d3 d4 d5 d6 d7
    clear hh h D1 T1 D2 T2 hoff
    go_enter Tryd.func20, Tryd.ntmps20
    go_wp2_with (go_at_call 41; (with_reducible refine GI.out.mono ?_); rintro e w1 ⟨rfl, rfl⟩)
    exact bodyPost_end (results_none rfl _ _ _) rfl ⟨rfl, HD.out, HT.out⟩

set_option maxHeartbeats 1600000 in
theorem fuse_any (I : Nat → Prop) (a mk mw : Nat) (s : Dv) (n : Int) (w : World) (h : DvAt w I a mk mw s) (hn : -9223372036854775808 ≤ n ∧ n ≤ 9223372036854775807) :
    Calls Tryd.prog 23 #[.pointer (some ⟨a, 0, none⟩), .int .i64 n] w (Leaves I a mk mw w (s.fused n) (.tuple #[])) := by
  have hh := h.ok
  unfold Dv.fused
  have H1 := h.field 6 (.int .i64 (max n 0)) { s with fuse := max n 0 } rfl rfl rfl rfl ⟨hh.s1, hh.s2, hh.c1, hh.c2, hh.ku, hh.wu, hh.kr, hh.wr_, hh.wn, by show -1 ≤ max n 0; omega, by show max n 0 ≤ _; omega, hh.o1, hh.w1⟩
  obtain ⟨D1, T1⟩ := H1
  obtain ⟨c0, c1, c2, c3, c4, c5, c6, c7⟩ := h.reads
  have f6 := h.free 6
  have HD := Lib.hid D1
  have HT := Lib.hid T1
  clear hh h D1 T1
  rcases (by omega : 0 ≤ n ∨ n < 0) with hn0 | hn0
  · rw [show max n 0 = n by omega] at HD HT ⊢
    go_enter Tryd.func23, Tryd.ntmps23
    go_wp2
    exact bodyPost_end (results_none rfl _ _ _) rfl ⟨rfl, HD.out, HT.out⟩
  · rw [show max n 0 = 0 by omega] at HD HT ⊢
    have hn1 : ¬ 0 ≤ n := by omega
    go_enter Tryd.func23, Tryd.ntmps23
    go_wp2
    exact bodyPost_end (results_none rfl _ _ _) rfl ⟨rfl, HD.out, HT.out⟩

set_option maxHeartbeats 1600000 in
theorem blows_any (I : Nat → Prop) (a mk mw : Nat) (s : Dv) (w : World) (h : DvAt w I a mk mw s) (hb : s.offs ≤ 1000000000) :
    Calls Tryd.prog 43 #[.pointer (some ⟨a, 0, none⟩)] w (Leaves I a mk mw w s.tick (.bool s.blown)) := by
  have hh := h.ok
  obtain ⟨c0, c1, c2, c3, c4, c5, c6, c7⟩ := h.reads
  have f6 := h.free 6
  unfold Dv.tick Dv.blown
  have hf1 := hh.f1
  have hf2 := hh.f2
  by_cases h1 : s.fuse = -1
  · rw [if_pos h1, decide_eq_false (by omega)]
    have HD := Lib.hid h
    rw [h1] at c6
    clear h hh h1
    go_enter Tryd.func43, Tryd.ntmps43
    go_wp2
    go_ret
    exact ⟨rfl, HD.out, TurnsIn.refl _ _⟩
  · rw [if_neg h1]
    by_cases h0 : s.fuse = 0
    · rw [if_pos h0, decide_eq_true h0]
      have GO := Lib.hid (off_any I a mk mw s w h hb)
      rw [h0] at c6
      clear h hh h1 h0 hf1 hf2
      generalize s.down = s1 at *
      go_enter Tryd.func43, Tryd.ntmps43
      go_wp2_with (go_at_call 20; (with_reducible refine GO.out.mono ?_); rintro e w1 ⟨rfl, hd, ht⟩)
      go_ret
      exact ⟨rfl, hd, ht⟩
    · rw [if_neg h0, decide_eq_false h0]
      have d1 : decide (s.fuse = -1) = false := decide_eq_false h1
      have d0 : decide (s.fuse = 0) = false := decide_eq_false h0
      have b1 : (s.fuse == -1) = false := by simpa using h1
      have b0 : (s.fuse == 0) = false := by simpa using h0
      have H1 := h.field 6 (.int .i64 (s.fuse - 1)) { s with fuse := s.fuse - 1 } rfl rfl rfl rfl ⟨hh.s1, hh.s2, hh.c1, hh.c2, hh.ku, hh.wu, hh.kr, hh.wr_, hh.wn, by show -1 ≤ s.fuse - 1; omega, by show s.fuse - 1 ≤ _; omega, hh.o1, hh.w1⟩
      obtain ⟨D1, T1⟩ := H1
      have HD := Lib.hid D1
      have HT := Lib.hid T1
      have hf3 : 0 < s.fuse := by omega
      clear hh h D1 T1 h1 h0 hf1
      generalize s.fuse = n at *
      go_enter Tryd.func43, Tryd.ntmps43
      go_wp2
      go_ret
      exact ⟨rfl, HD.out, HT.out⟩
end Go.Proofs.YtpnodocjpedcmaaDoor.Sec

namespace Go.Proofs.YtpnodocjpedcmaaDoor.Sec
open Go.ChangeShapes Go.WideShapes Go.ChangeAt Go.RowKit Go.Proofs.YtpnodocjpedcmaaDoor.Kit Go.Maps

theorem elem8 : IntElem Tryd.prog 22 5 .u8 1 := ⟨Tryd.underlying22, by kernel_rfl, by decide⟩

set_option maxRecDepth 100000 in
/-- slices.Clone of bytes that are not nil: a new row. -/
theorem clone_any (b off : Nat) (xs : List Int) (c : Nat) (w : World) (hx : xs.length ≤ 1000000000) (hr : Holds w w.heap.size .u8 (some ⟨b, off, none⟩) xs) :
    Calls Tryd.prog 42 #[.slice (some ⟨b, off, none⟩) xs.length c] w fun e w' => ∃ v, e = .returned v ∧ Own w' w.heap.size 5 .u8 v xs ∧ Below w.heap.size w w' := by
  have own0 : Own (w.alloc (.cells #[] 5)) w.heap.size 5 .u8 (.slice (some ⟨w.heap.size, 0, none⟩) 0 0) [] := Own.empty w 5 .u8 (Nat.le_refl _)
  have B0 : Below w.heap.size w (w.alloc (.cells #[] 5)) := (Below.refl _ _).alloc (Nat.le_refl _) _
  have hr0 := hr.below B0
  have q := fun W => Lib.run_eql_slice_nil (P := Tryd.prog) W 22 5 (some ⟨b, off, none⟩) xs.length c 0 0 Tryd.underlying22
  clear hr
  go_enter Tryd.func42, Tryd.ntmps42
  go_wp2_with (at_builtin; refine wpList_append_ints (ys := xs) _ rfl _ _ 22 rfl elem8 own0 rfl rfl hr0 (by simp; omega) B0.size ?_; intro v7 w7 own7 g7 hb7 _)
  go_ret
  exact ⟨_, rfl, own7, B0.trans hb7⟩

def Dv.new (size count : Nat) : Dv := ⟨size, count, [], [], false, 0, -1, 0⟩
theorem Dv.new_ok {size count : Nat} (h1 : 128 ≤ size) (h2 : size ≤ 4096) (h3 : 1 ≤ count) (h4 : count ≤ 1048576) : (Dv.new size count).Ok :=
  ⟨h1, h2, h3, h4, up_nil, up_nil, fun _ h => (List.not_mem_nil h).elim, fun _ h => (List.not_mem_nil h).elim, fun _ h => (List.not_mem_nil h).elim, Int.le_refl _, by show (-1 : Int) ≤ _; omega, Int.le_refl _, Int.le_refl _⟩
/-- A device that is new. -/
def NewDev (I : Nat → Prop) (s : Dv) (w : World) (e : Ending) (w' : World) : Prop :=
  ∃ a mk mw, e = .returned (.tuple #[.pointer (some ⟨a, 0, none⟩), .int .i64 0]) ∧ DvAt w' I a mk mw s ∧ Below w.heap.size w w' ∧ w.heap.size ≤ a ∧ w.heap.size ≤ mk ∧ w.heap.size ≤ mw

set_option maxHeartbeats 1600000 in
theorem new_any (I : Nat → Prop) (size count : Nat) (w : World) (h1 : 128 ≤ size) (h2 : size ≤ 4096) (h3 : 1 ≤ count) (h4 : count ≤ 1048576) :
    Calls Tryd.prog 10 #[.int .i64 size, .int .i64 count] w (NewDev I (Dv.new size count) w) := by
  have hmm := fun W t => @run_makeMap Tryd.prog W t
  go_enter Tryd.func10, Tryd.ntmps10
  go_wp2
  go_ret2
  have K1 : MapAt (w.alloc (.map #[] 0)) I RK w.heap.size size [] := MapAt.made w I RK size
  have B1 : Below w.heap.size w (w.alloc (.map #[] 0)) := (Below.refl _ _).alloc (Nat.le_refl _) _
  have z1 : (w.alloc (.map #[] 0)).heap.size = w.heap.size + 1 := by simp
  have W2 : MapAt ((w.alloc (.map #[] 0)).alloc (.map #[] 0)) I RW (w.heap.size + 1) size [] := by
    have := MapAt.made (w.alloc (.map #[] 0)) I RW size
    rw [z1] at this
    exact this
  have T2 : TurnsIn (fun _ => False) (w.alloc (.map #[] 0)) ((w.alloc (.map #[] 0)).alloc (.map #[] 0)) := (TurnsIn.refl _ _).alloc _
  have K2 := K1.out T2 id (fun _ h => h.elim)
  have z2 : ((w.alloc (.map #[] 0)).alloc (.map #[] 0)).heap.size = w.heap.size + 1 + 1 := by simp
  have B2 := B1.alloc B1.size (.map #[] 0)
  have T3 : TurnsIn (fun _ => False) ((w.alloc (.map #[] 0)).alloc (.map #[] 0)) (((w.alloc (.map #[] 0)).alloc (.map #[] 0)).alloc (.cells ((Dv.new size count).cells w.heap.size (w.heap.size + 1)) 91)) := (TurnsIn.refl _ _).alloc _
  have D3 : Block (((w.alloc (.map #[] 0)).alloc (.map #[] 0)).alloc (.cells ((Dv.new size count).cells w.heap.size (w.heap.size + 1)) 91)) (w.heap.size + 1 + 1) 91 ((Dv.new size count).cells w.heap.size (w.heap.size + 1)) := by
    have := Block.new ((w.alloc (.map #[] 0)).alloc (.map #[] 0)) 91 ((Dv.new size count).cells w.heap.size (w.heap.size + 1))
    rw [z2] at this
    exact this
  exact ⟨_, _, _, rfl, ⟨D3, K2.out T3 id (fun _ h => h.elim), W2.out T3 id (fun _ h => h.elim), by omega, Dv.new_ok h1 h2 h3 h4⟩, B2.alloc B2.size _, by omega, by omega, by omega⟩
end Go.Proofs.YtpnodocjpedcmaaDoor.Sec

namespace Go.Proofs.YtpnodocjpedcmaaDoor.Sec
open Go.ChangeShapes Go.WideShapes Go.ChangeAt Go.RowKit Go.Proofs.YtpnodocjpedcmaaDoor.Kit Go.Maps

/-- What a read gives: bytes, and the error's number. -/
def Dv.read (s : Dv) (i : Int) : List Int × Int :=
  if s.off = true then ([], 8) else if i < 0 ∨ (s.count : Int) ≤ i then ([], 5) else
  match getS s.waits i with
  | some (some xs) => (xs, 0)
  | _ => match getS s.kept i with
    | none => (List.replicate s.size 0, 0)
    | some none => ([], 7)
    | some (some xs) => (xs, 0)
def GivesB (zs : List Int) (E : Int) (w : World) (e : Ending) (w' : World) : Prop :=
  ∃ v, e = .returned (.tuple #[v, .int .i64 E]) ∧ Own w' w.heap.size 5 .u8 v zs ∧ Below w.heap.size w w'
theorem mem_getS {l : Sl} {k : Int} {o : Option (List Int)} (h : getS l k = some o) : (k, o) ∈ l := by
  induction l with
  | nil => cases h
  | cons q r ih =>
    obtain ⟨j, u⟩ := q
    unfold getS at h
    split at h
    · rename_i hj
      injection h with h
      subst hj h
      simp
    · exact List.mem_cons_of_mem _ (ih h)

set_option maxRecDepth 100000 in
set_option maxHeartbeats 3200000 in
theorem read_any (I : Nat → Prop) (a mk mw : Nat) (s : Dv) (i : Int) (w : World) (h : DvAt w I a mk mw s) (hi : -9223372036854775808 ≤ i ∧ i ≤ 9223372036854775807) :
    Calls Tryd.prog 77 #[.pointer (some ⟨a, 0, none⟩), .int .i64 i] w (GivesB (s.read i).1 (s.read i).2 w) := by
  have GI := Lib.hid (isOn_any I a mk mw s w h)
  have B0 := Below.refl w.heap.size w
  have nil_ : ∀ E, GivesB [] E w (.returned (.tuple #[.slice none 0 0, .int .i64 E])) w := fun E => ⟨_, rfl, Own.nil w w.heap.size 5 .u8, B0⟩
  have HN := Lib.hid nil_
  clear nil_
  obtain ⟨c0, c1, c2, c3, c4, c5, c6, c7⟩ := h.reads
  have hs1 := h.ok.s1
  have hs2 := h.ok.s2
  have hc2 := h.ok.c2
  unfold Dv.read
  cases hoff : s.off with
  | true =>
    rw [if_pos rfl]
    rw [hoff] at GI
    clear h
    go_enter Tryd.func77, Tryd.ntmps77
    go_wp2_with (go_at_call 41; (with_reducible refine GI.out.mono ?_); rintro e w1 ⟨rfl, rfl⟩)
    go_ret2
    exact HN.out 8
  | false =>
    rw [if_neg (by decide)]
    rw [hoff] at GI
    by_cases hlo : i < 0
    · rw [if_pos (Or.inl hlo)]
      have d1 : decide (i < 0) = true := decide_eq_true hlo
      clear h
      go_enter Tryd.func77, Tryd.ntmps77
      go_wp2_with (go_at_call 41; (with_reducible refine GI.out.mono ?_); rintro e w1 ⟨rfl, rfl⟩)
      go_ret2
      exact HN.out 5
    · have d1 : decide (i < 0) = false := decide_eq_false hlo
      by_cases hhi : (s.count : Int) ≤ i
      · rw [if_pos (Or.inr hhi)]
        have d2 : decide ((s.count : Int) ≤ i) = true := decide_eq_true hhi
        clear h
        go_enter Tryd.func77, Tryd.ntmps77
        go_wp2_with (go_at_call 41; (with_reducible refine GI.out.mono ?_); rintro e w1 ⟨rfl, rfl⟩)
        go_ret2
        exact HN.out 5
      · have d2 : decide ((s.count : Int) ≤ i) = false := decide_eq_false hhi
        rw [if_neg (by omega)]
        cases hgw : getS s.waits i with
        | some o =>
          cases o with
          | none => exact absurd rfl (h.ok.wn _ (mem_getS hgw))
          | some xs =>
            obtain ⟨g, m, hr, hxl, _, _, own⟩ := h.wt.look_yes i hi xs hgw true
            obtain ⟨A, c, he, _, _, hh⟩ := own.opened
            injection he with he1 he2 he3
            subst he1 he3
            have GC := clone_any g 0 xs m w (by omega) hh
            rw [hxl] at GC
            replace GC := Lib.hid GC
            simp only [if_true] at hr
            clear h hgw own hh he2 hxl
            go_enter Tryd.func77, Tryd.ntmps77
            go_wp2_with (first
              | (go_at_call 41; (with_reducible refine GI.out.mono ?_); rintro e w1 ⟨rfl, rfl⟩)
              | (go_at_call 42; (with_reducible refine GC.out.mono ?_); rintro e w1 ⟨v, rfl, own, hb⟩))
            go_ret2
            exact ⟨v, rfl, own, hb⟩
        | none =>
          have hrw := h.wt.look_no i hi hgw
          cases hgk : getS s.kept i with
          | none =>
            have hrk := h.k.kept_no i hi hgk
            have e0 := (h.alloc (.cells #[.slice none 0 0, .bool false] 103)).reads.1
            have B1 : Below w.heap.size w (w.alloc (.cells #[.slice none 0 0, .bool false] 103)) := (Below.refl _ _).alloc (Nat.le_refl _) _
            clear h hgw hgk
            go_enter Tryd.func77, Tryd.ntmps77
            go_wp2_with (first
              | (go_at_call 41; (with_reducible refine GI.out.mono ?_); rintro e w1 ⟨rfl, rfl⟩)
              | (refine wpList_make_ints _ rfl _ _ _ rfl elem8 s.size s.size rfl rfl rfl rfl (Nat.le_refl _) (by omega) ?_; intro w5 own5 hb5 hl5))
            go_ret2
            have o6 := own5.mono B1.size
            rw [show (w.alloc (.cells #[.slice none 0 0, .bool false] 103)).heap.size = w.heap.size + 1 by simp] at o6
            exact ⟨_, rfl, o6, B1.trans (hb5.mono B1.size)⟩
          | some o =>
            cases o with
            | none =>
              have hrk := h.k.kept_torn i hi hgk
              clear h hgw hgk
              go_enter Tryd.func77, Tryd.ntmps77
              go_wp2_with (go_at_call 41; (with_reducible refine GI.out.mono ?_); rintro e w1 ⟨rfl, rfl⟩)
              go_ret2
              exact ⟨_, rfl, Own.nil _ w.heap.size 5 .u8, (Below.refl _ _).alloc (Nat.le_refl _) _⟩
            | some xs =>
              obtain ⟨g, m, hrk, hxl, _, _, own⟩ := h.k.kept_yes i hi xs hgk
              have B1 : Below w.heap.size w (w.alloc (.cells #[.slice (some ⟨g, 0, none⟩) s.size m, .bool false] 103)) := (Below.refl _ _).alloc (Nat.le_refl _) _
              obtain ⟨A, c, he, _, _, hh⟩ := own.opened
              injection he with he1 he2 he3
              subst he1 he3
              have GC := Lib.hid (fun W (hB : Below w.heap.size w W) => clone_any g 0 xs m W (by omega) ((hh.below hB).more hB.size))
              rw [hxl] at GC
              clear h hgw hgk own hh he2 hxl
              go_enter Tryd.func77, Tryd.ntmps77
              go_wp2_with (first
                | (go_at_call 41; (with_reducible refine GI.out.mono ?_); rintro e w1 ⟨rfl, rfl⟩)
                | (go_at_call 42; (with_reducible refine (GC.out _ B1).mono ?_); rintro e w1 ⟨v, rfl, own, hb⟩))
              go_ret2
              exact ⟨v, rfl, own.mono B1.size, B1.trans (hb.mono B1.size)⟩
end Go.Proofs.YtpnodocjpedcmaaDoor.Sec

namespace Go.Proofs.YtpnodocjpedcmaaDoor.Sec
open Go.ChangeShapes Go.WideShapes Go.ChangeAt Go.RowKit Go.Proofs.YtpnodocjpedcmaaDoor.Kit Go.Maps

/-- What a write leaves, and the error's number. -/
def Dv.writes (s : Dv) (i : Int) (xs : List Int) : Dv := { s with waits := putS s.waits i (some xs) }
def Dv.write (s : Dv) (i : Int) (xs : List Int) : Int × Dv :=
  if s.off = true then (8, s) else if i < 0 ∨ (s.count : Int) ≤ i then (5, s) else if xs.length ≠ s.size then (3, s) else
  if s.fuse = 0 then (8, (s.writes i xs).tick) else (0, { (s.writes i xs).tick with wr := s.wr + 1 })
theorem Dv.Ok.writes {s : Dv} (h : s.Ok) {i : Int} {xs : List Int} (h0 : 0 ≤ i) (h1 : i < s.count) : (s.writes i xs).Ok := by
  refine ⟨h.s1, h.s2, h.c1, h.c2, h.ku, h.wu.putS i (some xs), h.kr, fun p hp => ?_, fun p hp => ?_, h.f1, h.f2, h.o1, h.w1⟩
  · rcases mem_putS hp with rfl | hp
    · exact ⟨h0, h1⟩
    · exact h.wr_ p hp
  · rcases mem_putS hp with rfl | hp
    · exact fun e => by cases e
    · exact h.wn p hp
theorem Dv.Ok.tick {s : Dv} (h : s.Ok) : s.tick.Ok := by
  unfold Dv.tick
  split
  · exact h
  · split
    · exact h.down
    · exact ⟨h.s1, h.s2, h.c1, h.c2, h.ku, h.wu, h.kr, h.wr_, h.wn, by have := h.f1; show -1 ≤ s.fuse - 1; omega, by have := h.f2; show s.fuse - 1 ≤ _; omega, h.o1, h.w1⟩
theorem Dv.tick_wr (s : Dv) : s.tick.wr = s.wr := by
  unfold Dv.tick Dv.down
  split
  · rfl
  · split
    · split <;> rfl
    · rfl
theorem waits_few {s : Dv} (h : s.Ok) : s.waits.length < 1000000000 := by
  have := up_length s.waits 0 h.wu h.wr_
  have := h.c2
  omega
theorem kept_few {s : Dv} (h : s.Ok) : s.kept.length < 1000000000 := by
  have := up_length s.kept 0 h.ku h.kr
  have := h.c2
  omega
/-- A sector is put to wait. -/
theorem DvAt.wait {w w' : World} {I : Nat → Prop} {a mk mw : Nat} {s : Dv} (h : DvAt w I a mk mw s) {i : Int} {xs : List Int} (h0 : 0 ≤ i) (h1 : i < s.count) (hm : MapAt w' I RW mw s.size (putS s.waits i (some xs))) (t : w.mapTurned w' mw) :
    DvAt w' I a mk mw (s.writes i xs) ∧ TurnsIn (DSet a mk mw) w w' := by
  have tn : TurnsIn (fun x => x = mw) w w' := TurnsIn.ofGrown (row := some mw) t.grown fun x hx => (Option.some.inj hx).symm
  have hr : ∀ b, b = mw → I b → ∀ cs f, w.heap[b]? ≠ some (.cells cs 5 f) := fun b hb _ => h.no_row b (Or.inr (Or.inr hb))
  exact ⟨⟨h.blk.out tn h.ne_w, h.k.out tn h.ne hr, hm, h.ne, h.ok.writes h0 h1⟩, tn.mono fun b _ hb => Or.inr (Or.inr hb)⟩

set_option maxRecDepth 100000 in
set_option maxHeartbeats 3200000 in
theorem write_any (I : Nat → Prop) (a mk mw : Nat) (s : Dv) (i : Int) (A : Option Addr) (xs : List Int) (c : Nat) (w : World) (h : DvAt w I a mk mw s) (hI : ∀ g, w.heap.size ≤ g → I g) (hi : -9223372036854775808 ≤ i ∧ i ≤ 9223372036854775807)
    (hx : xs.length ≤ 1000000000) (ho : Octets xs) (hr : Holds w w.heap.size .u8 A xs) (hof : s.offs ≤ 1000000000) (hwr : s.wr ≤ 1000000000) :
    Calls Tryd.prog 12 #[.pointer (some ⟨a, 0, none⟩), .int .i64 i, .slice A xs.length c] w (Leaves I a mk mw w (s.write i xs).2 (.int .i64 (s.write i xs).1)) := by
  have GI := Lib.hid (isOn_any I a mk mw s w h)
  have HSame : ∀ E, Leaves I a mk mw w s (.int .i64 E) (.returned (.int .i64 E)) w := fun E => ⟨rfl, h, TurnsIn.refl _ _⟩
  have HN := Lib.hid HSame
  clear HSame
  obtain ⟨c0, c1, c2, c3, c4, c5, c6, c7⟩ := h.reads
  have hs1 := h.ok.s1
  have hs2 := h.ok.s2
  have hc2 := h.ok.c2
  unfold Dv.write
  cases hoff : s.off with
  | true =>
    rw [if_pos rfl]
    rw [hoff] at GI
    clear h
    go_enter Tryd.func12, Tryd.ntmps12
    go_wp2_with (go_at_call 41; (with_reducible refine GI.out.mono ?_); rintro e w1 ⟨rfl, rfl⟩)
    go_ret
    exact HN.out 8
  | false =>
    rw [if_neg (by decide)]
    rw [hoff] at GI
    by_cases hlo : i < 0
    · rw [if_pos (Or.inl hlo)]
      have d1 : decide (i < 0) = true := decide_eq_true hlo
      clear h
      go_enter Tryd.func12, Tryd.ntmps12
      go_wp2_with (go_at_call 41; (with_reducible refine GI.out.mono ?_); rintro e w1 ⟨rfl, rfl⟩)
      go_ret
      exact HN.out 5
    · have d1 : decide (i < 0) = false := decide_eq_false hlo
      by_cases hhi : (s.count : Int) ≤ i
      · rw [if_pos (Or.inr hhi)]
        have d2 : decide ((s.count : Int) ≤ i) = true := decide_eq_true hhi
        clear h
        go_enter Tryd.func12, Tryd.ntmps12
        go_wp2_with (go_at_call 41; (with_reducible refine GI.out.mono ?_); rintro e w1 ⟨rfl, rfl⟩)
        go_ret
        exact HN.out 5
      · have d2 : decide ((s.count : Int) ≤ i) = false := decide_eq_false hhi
        rw [if_neg (by omega)]
        by_cases hlen : xs.length = s.size
        · rw [if_neg (fun e => e hlen)]
          obtain ⟨b, off, rfl, hb, hc⟩ := hr (by omega)
          have GC := Lib.hid (fun W (hB : Below w.heap.size w W) => clone_any b off xs c W hx ((hr.below hB).more hB.size))
          have hStore : ∀ W v, Below w.heap.size w W → Own W w.heap.size 5 .u8 v xs → ∃ W', (Instr.mapUpdate 89 (.map (some mw)) (.int .i64 i) v).run Tryd.prog W = .ok () W' ∧ DvAt W' I a mk mw (s.writes i xs) ∧ TurnsIn (DSet a mk mw) w W' := by
            intro W v hB own
            obtain ⟨g, cap, rfl, hg, hg2, _⟩ := own.form (by omega)
            have D := h.below hB
            rw [hlen] at own ⊢
            obtain ⟨W', h1, h2, h3⟩ := D.wt.store Tryd.underlying89 h.ok.wu (waits_few h.ok) i hi _ (some xs) (GoodV.waits (hI g hg) hlen ho (own.mono (Nat.zero_le _)))
            obtain ⟨D2, T2⟩ := D.wait (by omega) (by omega) h2 h3
            exact ⟨W', h1, D2, (TurnsIn.ofNew hB).trans T2⟩
          obtain ⟨F, hF⟩ : ∃ F : World → Value → World, ∀ W v, Below w.heap.size w W → Own W w.heap.size 5 .u8 v xs → (Instr.mapUpdate 89 (.map (some mw)) (.int .i64 i) v).run Tryd.prog W = .ok () (F W v) ∧ DvAt (F W v) I a mk mw (s.writes i xs) ∧ TurnsIn (DSet a mk mw) w (F W v) :=
            ⟨fun W v => @Classical.epsilon World ⟨w⟩ (fun W' => (Instr.mapUpdate 89 (.map (some mw)) (.int .i64 i) v).run Tryd.prog W = .ok () W' ∧ DvAt W' I a mk mw (s.writes i xs) ∧ TurnsIn (DSet a mk mw) w W'), fun W v hB own => Classical.epsilon_spec (hStore W v hB own)⟩
          have HStore := Lib.hid hF
          clear hF
          have B0 := Below.refl w.heap.size w
          obtain ⟨R, hR⟩ : ∃ R : Int × Dv, (if s.fuse = 0 then (8, (s.writes i xs).tick) else (0, { (s.writes i xs).tick with wr := s.wr + 1 })) = R := ⟨_, rfl⟩
          rw [hR]
          have HR := Lib.hid hR
          clear hR
          have b1 : ((xs.length : Int) != (s.size : Int)) = false := by rw [hlen]; simp
          have b2 : ((xs.length : Int) == (s.size : Int)) = true := by rw [hlen]; simp
          have HLen := Lib.hid hlen
          have HD := Lib.hid h
          have hal := h.lt.1
          clear hStore h hlen hr
          go_enter Tryd.func12, Tryd.ntmps12
          go_wp2_with (go_at_call 41; (with_reducible refine GI.out.mono ?_); rintro e w1 ⟨rfl, rfl⟩)
          go_cut [0] (fun p wx => p = .pointer (some ⟨a, 0, none⟩) ∧ DvAt wx I a mk mw (s.writes i xs) ∧ TurnsIn (DSet a mk mw) w wx)
          case first =>
            go_region_with (go_at_call 42; refine (GC.out _ (by first | exact B0 | exact below_draws B0 _)).mono ?_; rintro e w1 ⟨v, rfl, own, hb⟩; have q3 := (HD.out.below (w' := w1) ⟨hb.os, hb.tape, hb.output, hb.size, hb.block⟩).reads.2.2.2.1; have e1 := (HStore.out w1 v ⟨hb.os, hb.tape, hb.output, hb.size, hb.block⟩ own).1)
            all_goals
              have hS := HStore.out w1 v ⟨hb.os, hb.tape, hb.output, hb.size, hb.block⟩ own
              go_wp2_with fail
              go_meet
              exact ⟨rfl, hS.2.1, hS.2.2⟩
          case rest =>
            clear c0 c1 c2 c3 c4 c5 c6 c7 b1 b2
            obtain ⟨rfl, D, T⟩ := hcut
            have GB := Lib.hid (blows_any I a mk mw (s.writes i xs) _ D hof)
            have hbl : (s.writes i xs).blown = decide (s.fuse = 0) := rfl
            rw [hbl] at GB
            have hw1 := D.ok.w1
            have hw0 : 0 ≤ s.wr := hw1
            by_cases hf : s.fuse = 0
            · rw [decide_eq_true hf] at GB
              rw [if_pos hf] at HR
              go_wp2_with (go_at_call 43; (with_reducible refine GB.out.mono ?_); rintro e w4 ⟨rfl, hd, ht⟩)
              go_ret
              rw [← HR.out]
              exact ⟨rfl, hd, T.trans ht⟩
            · rw [decide_eq_false hf] at GB
              rw [if_neg hf] at HR
              have hok := D.ok.tick
              have HTW := Lib.hid ((s.writes i xs).tick_wr)
              have HF : ∀ w4, DvAt w4 I a mk mw (s.writes i xs).tick → w4.cell? ⟨a, 7, none⟩ = some (.int .u64 s.wr) ∧ w4.frozen? ⟨a, 7, none⟩ = false ∧ DvAt (w4.setCell ⟨a, 7, none⟩ (.int .u64 (s.wr + 1))) I a mk mw { (s.writes i xs).tick with wr := s.wr + 1 } ∧ TurnsIn (DSet a mk mw) w4 (w4.setCell ⟨a, 7, none⟩ (.int .u64 (s.wr + 1))) := by
                intro w4 hd
                have r7 := hd.reads.2.2.2.2.2.2.2
                rw [(s.writes i xs).tick_wr] at r7
                obtain ⟨q1, q2⟩ := hd.field 7 (.int .u64 (s.wr + 1)) { (s.writes i xs).tick with wr := s.wr + 1 } rfl rfl rfl rfl ⟨hok.s1, hok.s2, hok.c1, hok.c2, hok.ku, hok.wu, hok.kr, hok.wr_, hok.wn, hok.f1, hok.f2, hok.o1, by show 0 ≤ s.wr + 1; omega⟩
                exact ⟨r7, hd.free 7, q1, q2⟩
              have HF' := Lib.hid HF
              clear HF hok D hf hw1 hbl
              generalize (s.writes i xs).tick = s2 at *
              go_wp2_with (go_at_call 43; (with_reducible refine GB.out.mono ?_); rintro e w4 ⟨rfl, hd, ht⟩; obtain ⟨r7, f7, q1, q2⟩ := HF'.out w4 hd)
              go_ret
              rw [← HR.out]
              exact ⟨rfl, q1, T.trans (ht.trans q2)⟩
        · rw [if_pos hlen]
          have b1 : ((xs.length : Int) != (s.size : Int)) = true := by simpa using (fun e : (xs.length : Int) = s.size => hlen (by omega))
          have b2 : ((xs.length : Int) == (s.size : Int)) = false := by simpa using (fun e : (xs.length : Int) = s.size => hlen (by omega))
          clear h hlen
          go_enter Tryd.func12, Tryd.ntmps12
          go_wp2_with (go_at_call 41; (with_reducible refine GI.out.mono ?_); rintro e w1 ⟨rfl, rfl⟩)
          go_ret
          exact HN.out 3
end Go.Proofs.YtpnodocjpedcmaaDoor.Sec

namespace Go.Proofs.YtpnodocjpedcmaaDoor.Sec
open Go.Proofs.YtpnodocjpedcmaaDoor.Kit

theorem getS_low {l : Sl} {k : Int} (h : ∀ p ∈ l, k < p.1) : getS l k = none := by
  induction l with
  | nil => rfl
  | cons q r ih =>
    obtain ⟨j, u⟩ := q
    have := h (j, u) (by simp)
    simp only at this
    unfold getS
    rw [if_neg (by omega)]
    exact ih fun p hp => h p (List.mem_cons_of_mem _ hp)
theorem getS_putS {l : Sl} (hu : Up l) (k j : Int) (o : Option (List Int)) : getS (putS l k o) j = if j = k then some o else getS l j := by
  induction l with
  | nil =>
    unfold putS getS
    by_cases c : k = j
    · rw [if_pos c, if_pos c.symm]
    · rw [if_neg c, if_neg (fun e => c e.symm)]
      rfl
  | cons q r ih =>
    obtain ⟨i, u⟩ := q
    obtain ⟨h1, h2⟩ := List.pairwise_cons.1 hu
    unfold putS
    by_cases c1 : k < i
    · rw [if_pos c1]
      conv => lhs; unfold getS
      by_cases c : k = j
      · rw [if_pos c, if_pos c.symm]
      · rw [if_neg c, if_neg (fun e => c e.symm)]
    · rw [if_neg c1]
      by_cases c2 : k = i
      · rw [if_pos c2]
        subst c2
        conv => lhs; unfold getS
        by_cases c : k = j
        · rw [if_pos c, if_pos c.symm]
        · rw [if_neg c, if_neg (fun e => c e.symm)]
          conv => rhs; unfold getS
          rw [if_neg c]
      · rw [if_neg c2]
        conv => lhs; unfold getS
        rw [ih h2]
        conv => rhs; unfold getS
        by_cases c : i = j
        · rw [if_pos c, if_pos c, if_neg (by omega)]
        · rw [if_neg c, if_neg c]
theorem getS_some {l : Sl} (hu : Up l) {p : Int × Option (List Int)} (h : p ∈ l) : getS l p.1 = some p.2 := by
  induction l with
  | nil => cases h
  | cons q r ih =>
    obtain ⟨j, u⟩ := q
    obtain ⟨h1, h2⟩ := List.pairwise_cons.1 hu
    rcases List.mem_cons.1 h with rfl | h
    · unfold getS; rw [if_pos rfl]
    · have : j < p.1 := h1 p h
      unfold getS
      rw [if_neg (by omega)]
      exact ih h2 h
theorem sl_ext : ∀ {l m : Sl}, Up l → Up m → (∀ k, getS l k = getS m k) → l = m
  | [], [], _, _, _ => rfl
  | [], q :: r, _, hm, h => by
    have := h q.1
    rw [getS_some hm (by simp)] at this
    cases this
  | q :: r, [], hl, _, h => by
    have := h q.1
    rw [getS_some hl (by simp)] at this
    cases this
  | (i, u) :: r, (j, v) :: t, hl, hm, h => by
    obtain ⟨a1, a2⟩ := List.pairwise_cons.1 hl
    obtain ⟨b1, b2⟩ := List.pairwise_cons.1 hm
    have e : i = j := by
      rcases Int.lt_trichotomy i j with c | c | c
      · have := h i
        rw [getS_low (l := (j, v) :: t) (fun p hp => by
          rcases List.mem_cons.1 hp with rfl | hp
          · exact c
          · have : j < p.1 := b1 p hp
            omega)] at this
        unfold getS at this
        rw [if_pos rfl] at this
        cases this
      · exact c
      · have := h j
        rw [getS_low (l := (i, u) :: r) (fun p hp => by
          rcases List.mem_cons.1 hp with rfl | hp
          · exact c
          · have : i < p.1 := a1 p hp
            omega)] at this
        unfold getS at this
        rw [if_pos rfl] at this
        cases this
    subst e
    have ev : u = v := by
      have := h i
      unfold getS at this
      rw [if_pos rfl, if_pos rfl] at this
      injection this
    subst ev
    congr 1
    refine sl_ext a2 b2 fun k => ?_
    have := h k
    unfold getS at this
    by_cases c : i = k
    · subst c
      rw [getS_low (fun p hp => a1 p hp), getS_low (fun p hp => b1 p hp)]
    · rw [if_neg c, if_neg c] at this
      exact this

/-- What waits is kept. -/
def merge (k w : Sl) : Sl := w.foldl (fun k p => putS k p.1 p.2) k
theorem merge_up {k w : Sl} (h : Up k) : Up (merge k w) := by
  induction w generalizing k with
  | nil => exact h
  | cons q r ih => exact ih (h.putS q.1 q.2)
theorem mem_merge {k w : Sl} {p : Int × Option (List Int)} (h : p ∈ merge k w) : p ∈ k ∨ p ∈ w := by
  induction w generalizing k with
  | nil => exact Or.inl h
  | cons q r ih =>
    rcases ih h with h | h
    · rcases mem_putS h with rfl | h
      · exact Or.inr (by simp)
      · exact Or.inl h
    · exact Or.inr (List.mem_cons_of_mem _ h)
theorem getS_merge {k w : Sl} (h : Up k) (hw : Up w) (j : Int) : getS (merge k w) j = match getS w j with | some o => some o | none => getS k j := by
  induction w generalizing k with
  | nil => rfl
  | cons q r ih =>
    obtain ⟨i, u⟩ := q
    obtain ⟨a1, a2⟩ := List.pairwise_cons.1 hw
    show getS (merge (putS k i u) r) j = _
    have e : getS ((i, u) :: r) j = if i = j then some u else getS r j := rfl
    rw [ih (h.putS i u) a2, getS_putS h, e]
    by_cases c : i = j
    · subst c
      rw [getS_low (fun p hp => a1 p hp), if_pos rfl, if_pos rfl]
    · rw [if_neg c, if_neg (fun e => c e.symm)]
end Go.Proofs.YtpnodocjpedcmaaDoor.Sec

namespace Go.Proofs.YtpnodocjpedcmaaDoor.Sec
open Go.ChangeShapes Go.WideShapes Go.ChangeAt Go.RowKit Go.Proofs.YtpnodocjpedcmaaDoor.Kit Go.Maps Go.ChangeMaps Go.MapKept

/-- What waits is kept, and waits no more. -/
def Dv.flush (s : Dv) : Dv := { s with kept := merge s.kept s.waits, waits := [] }
def Dv.sync (s : Dv) : Int × Dv := if s.off = true then (8, s) else if s.fuse = 0 then (8, s.tick) else (0, s.tick.flush)
theorem Dv.Ok.flush {s : Dv} (h : s.Ok) : s.flush.Ok :=
  ⟨h.s1, h.s2, h.c1, h.c2, merge_up h.ku, up_nil, fun p hp => by
    rcases mem_merge hp with hp | hp
    · exact h.kr p hp
    · exact h.wr_ p hp, fun _ h => (List.not_mem_nil h).elim, fun _ h => (List.not_mem_nil h).elim, h.f1, h.f2, h.o1, h.w1⟩

/-- clear(m). -/
theorem MapAt.clear {w : World} {I : Nat → Prop} {R : Value → Option (DataW Unit × List MemPlace)} {b n : Nat} {l : Sl} {t e : TypeId} (ht : Tryd.prog.underlying t = some (.map 3 e)) (h : MapAt w I R b n l) :
    ∃ w', (∀ ty, (Builtin.clear_ #[t] ty #[.map (some b)]).run Tryd.prog w = .ok (.tuple #[]) w') ∧ MapAt w' I R b n [] ∧ w.mapTurned w' b := by
  obtain ⟨es, ⟨e1, c1, h1, F, _⟩, h2⟩ := h
  refine ⟨setBlock w b (.map #[] c1), fun ty => ?_, ?_, ⟨e1, c1, #[], c1, h1, rfl⟩⟩
  · simp [Builtin.clear_, run_underlying ht, MapKept.run_getObj_map h1, MapKept.run_setObj_map _ h1, Result.andThen, setBlock]
  · refine ⟨[], ⟨#[], c1, heap_setBlock_same h1 _, ⟨by simp, MapKept.stamped_empty c1, by simp⟩, Nat.le_refl _, rfl⟩, .nil⟩

/-- A device, its map of what waits under way in a loop. -/
theorem has_get {w : World} {I : Nat → Prop} {n : Nat} {es : List (Lit × DataW Unit)} {l : Sl} (h : Ties w I n es l) (k : Int) (hk : Maps.has (.map es) (.int .i64 k) = true) : ∃ o, getS l k = some o := by
  cases hg : getS l k with
  | some o => exact ⟨o, rfl⟩
  | none => rw [(h.get_no k hg).1] at hk; cases hk

/-- The loop of Sync: kc is kept by now; left tells what is still to come. -/
structure Going (w0 w : World) (I : Nat → Prop) (a mk mw r N : Nat) (s : Dv) (es : List (Lit × DataW Unit)) (left : Lit → Bool) (cnt : Nat) (kc : Sl) : Prop where
  blk : Block w a 91 (s.cells mk mw)
  k : MapAt w I RK mk s.size kc
  ku : Up kc
  kr : ∀ p ∈ kc, 0 ≤ p.1 ∧ p.1 < s.count
  rg : w.ranges Tryd.prog 3 RW mw r N (.map es) left cnt
  ties : Ties w I s.size es s.waits
  sub : ∀ kl, left kl = true → Maps.has (.map es) kl = true
  is : ∀ j, getS kc j = match getS s.waits j with | some o => if left (.int .i64 j) = true then getS s.kept j else some o | none => getS s.kept j
  tn : TurnsIn (DSet a mk mw) w0 w
  nr : w0.heap.size ≤ r
  na : a < w0.heap.size
  nk : mk < w0.heap.size
  nw : mw < w0.heap.size

theorem iter_no_row {w : World} {b r n : Nat} {D : DataW Unit} {left : Lit → Bool} {cnt : Nat} (h : w.ranges Tryd.prog 3 RW b r n D left cnt) (cs : Array Value) (t : TypeId) (f : Nat × Nat) : w.heap[r]? ≠ some (.cells cs t f) := by
  obtain ⟨es, clock, since, seen, c0, _, _, _, _, hr, _⟩ := h
  rw [hr]
  intro e
  injection e with e
  cases e

/-- One entry is kept. -/
theorem Going.step {w0 w1 : World} {I : Nat → Prop} {a mk mw r N : Nat} {s : Dv} {es : List (Lit × DataW Unit)} {left : Lit → Bool} {cnt cnt1 : Nat} {kc : Sl} {w : World} (hok : s.Ok) (ne : mk ≠ mw) (h : Going w0 w I a mk mw r N s es left cnt kc) (x : Int) (v : Value) (y : DataW Unit × List MemPlace)
    (hx : (Lit.int .i64 x).wf = true) (hl : left (.int .i64 x) = true) (hv : RW v = some y) (hat : ∀ zd, (DataW.map es).atKey (.int .i64 x) zd = y.1) (hrg : w1.ranges Tryd.prog 3 RW mw r N (.map es) (fun z => left z && !z.sameKey (.int .i64 x)) cnt1) (hg : w.grownBy w1 (some r)) :
    w1.cell? ⟨a, 2, none⟩ = some (.map (some mk)) ∧ (∃ g m, v = .slice (some ⟨g, 0, none⟩) s.size m) ∧ ∃ w2, (Instr.mapUpdate 88 (.map (some mk)) (.int .i64 x) (.agg #[v, .bool false])).run Tryd.prog w1 = .ok () w2 ∧
      Going w0 w2 I a mk mw r N s es (fun z => left z && !z.sameKey (.int .i64 x)) cnt1 (putS kc x (match getS s.waits x with | some o => o | none => none)) := by
  obtain ⟨o, ho⟩ := has_get h.ties x (h.sub _ hl)
  obtain ⟨q1, q2⟩ := hok.wr_ _ (mem_getS ho)
  cases o with
  | none => exact absurd rfl (hok.wn _ (mem_getS ho))
  | some xs =>
    simp only [ho]
    obtain ⟨_, d, hd, htie⟩ := h.ties.get_yes x _ ho
    have hy : y.1 = d := by rw [← hat (.lit (.bool true)), hd]
    have hnr := fun cs f => iter_no_row h.rg cs 5 f
    have t1 : TurnsIn (fun b => b = r) w w1 := TurnsIn.ofGrown (row := some r) hg fun b hb => (Option.some.inj hb).symm
    have hS : ∀ b, b = r → I b → ∀ cs f, w.heap[b]? ≠ some (.cells cs 5 f) := by rintro b rfl _ cs f; exact hnr cs f
    have hna := h.na
    have hnk := h.nk
    have hnw := h.nw
    have hnrr := h.nr
    have blk1 := h.blk.out t1 (by omega)
    have k1 := h.k.out t1 (by omega) hS
    have ties1 := h.ties.out t1 hS
    obtain ⟨_, g, c, e1, e2, e3, eI, e4⟩ := htie.out t1 hS
    change d = codeS g s.size c at e1
    have hv' : RW v = some (codeS g s.size c, y.2) := by rw [hv, ← e1, ← hy]
    obtain rfl := RW_some hv'
    have hc2 := hok.c2
    have hfew : kc.length < 1000000000 := by
      have := up_length kc 0 h.ku h.kr
      omega
    have hxb : -9223372036854775808 ≤ x ∧ x ≤ 9223372036854775807 := by simp only at q1 q2; omega
    obtain ⟨w2, hrun, hm2, ht2⟩ := k1.store Tryd.underlying88 h.ku hfew x hxb _ (some xs) (GoodV.kept eI e2 e3 e4)
    have t2 : TurnsIn (fun b => b = mk) w1 w2 := TurnsIn.ofGrown (row := some mk) ht2.grown fun b hb => (Option.some.inj hb).symm
    have hS2 : ∀ b, b = mk → I b → ∀ cs f, w1.heap[b]? ≠ some (.cells cs 5 f) := fun b hb _ cs f => row_not_map k1 b hb cs f
    have hak : a ≠ mk := by
      rintro rfl
      exact h.k.no_row _ _ _ h.blk
    refine ⟨blk1.cell 2, ⟨g, c, rfl⟩, w2, hrun, ⟨blk1.out t2 hak, hm2, h.ku.putS x (some xs), fun p hp => ?_, ?_, ties1.out t2 hS2, fun kl hkl => ?_, fun j => ?_, ?_, h.nr, h.na, h.nk, h.nw⟩⟩
    · rcases mem_putS hp with rfl | hp
      · exact ⟨q1, q2⟩
      · exact h.kr p hp
    · refine hrg.kept ht2.grown (fun e => ne (Option.some.inj e).symm) (fun e => ?_)
      have := Option.some.inj e
      omega
    · simp only [Bool.and_eq_true] at hkl
      exact h.sub kl hkl.1
    · rw [getS_putS h.ku]
      by_cases c : j = x
      · subst c
        rw [if_pos rfl, ho]
        simp only [same_int, decide_true, Bool.not_true, Bool.and_false]
        rfl
      · rw [if_neg c, h.is j]
        simp only [same_int, decide_eq_false c, Bool.not_false, Bool.and_true]
    · refine (h.tn.then_ t1 fun b hb e => ?_).trans (t2.mono fun b _ e => Or.inr (Or.inl e))
      omega

/-- The loop is done. -/
theorem Going.done {w0 w : World} {I : Nat → Prop} {a mk mw r N : Nat} {s : Dv} {es : List (Lit × DataW Unit)} {left : Lit → Bool} {cnt : Nat} {kc : Sl} (hok : s.Ok) (ne : mk ≠ mw) (h : Going w0 w I a mk mw r N s es left cnt kc) (hl : ∀ kl, left kl = false) :
    w.cell? ⟨a, 3, none⟩ = some (.map (some mw)) ∧ ∃ w', (∀ ty, (Builtin.clear_ #[89] ty #[.map (some mw)]).run Tryd.prog w = .ok (.tuple #[]) w') ∧ DvAt w' I a mk mw s.flush ∧ TurnsIn (DSet a mk mw) w0 w' := by
  have hm : MapAt w I RW mw s.size s.waits := MapAt.of h.rg.owns h.ties
  obtain ⟨w', hrun, hm', ht⟩ := hm.clear Tryd.underlying89
  have t : TurnsIn (fun b => b = mw) w w' := TurnsIn.ofGrown (row := some mw) ht.grown fun b hb => (Option.some.inj hb).symm
  have hS : ∀ b, b = mw → I b → ∀ cs f, w.heap[b]? ≠ some (.cells cs 5 f) := fun b hb _ cs f => row_not_map hm b hb cs f
  have haw : a ≠ mw := by
    rintro rfl
    exact hm.no_row _ _ _ h.blk
  have hk : kc = merge s.kept s.waits := by
    refine sl_ext h.ku (merge_up hok.ku) fun j => ?_
    rw [h.is j, getS_merge hok.ku hok.wu]
    cases getS s.waits j with
    | none => rfl
    | some o => simp only [hl]; rfl
  refine ⟨h.blk.cell 3, w', hrun, ⟨h.blk.out t haw, ?_, hm', ne, hok.flush⟩, h.tn.trans (t.mono fun b _ e => Or.inr (Or.inr e))⟩
  show MapAt w' I RK mk s.size (merge s.kept s.waits)
  rw [← hk]
  exact h.k.out t ne hS

theorem Going.start {w1 w2 : World} {I : Nat → Prop} {a mk mw N : Nat} {s : Dv} {es : List (Lit × DataW Unit)} (hd : DvAt w1 I a mk mw s) (hties : Ties w1 I s.size es s.waits)
    (hrg : w2.ranges Tryd.prog 3 RW mw w1.heap.size N (.map es) (Maps.has (.map es)) (Maps.size (.map es))) (hg : w1.grownBy w2 none) :
    Going w1 w2 I a mk mw w1.heap.size N s es (Maps.has (.map es)) (Maps.size (.map es)) s.kept := by
  have t : TurnsIn (fun _ => False) w1 w2 := TurnsIn.ofGrown (row := none) hg fun b hb => by cases hb
  refine ⟨hd.blk.out t id, hd.k.out t id (fun _ h => h.elim), hd.ok.ku, hd.ok.kr, hrg, hties.out t (fun _ h => h.elim), fun _ h => h, fun j => ?_, t.mono fun _ _ h => h.elim, Nat.le_refl _, hd.lt.1, hd.lt.2.1, hd.lt.2.2⟩
  cases hj : getS s.waits j with
  | none => rfl
  | some o => simp only [(hties.get_yes j o hj).1, if_true]

theorem invK : ∀ key kl, keyOf Tryd.prog 3 key = some kl → ∃ x : Int, key = Value.int .i64 x := fun key kl h => by
  obtain ⟨x, rfl, _⟩ := Maps.keyOf_int_inv Tryd.underlying3 h
  exact ⟨x, rfl⟩
theorem invV : ∀ v y, RW v = some y → ∃ c : Value, v = id c := fun v _ _ => ⟨v, rfl⟩

set_option maxRecDepth 100000 in
set_option maxHeartbeats 3200000 in
theorem sync_any (I : Nat → Prop) (a mk mw : Nat) (s : Dv) (w : World) (h : DvAt w I a mk mw s) (hof : s.offs ≤ 1000000000) :
    Calls Tryd.prog 53 #[.pointer (some ⟨a, 0, none⟩)] w (Leaves I a mk mw w s.sync.2 (.int .i64 s.sync.1)) := by
  have GI := Lib.hid (isOn_any I a mk mw s w h)
  have GB := Lib.hid (blows_any I a mk mw s w h hof)
  unfold Dv.sync
  cases hoff : s.off with
  | true =>
    rw [if_pos rfl]
    rw [hoff] at GI
    go_enter Tryd.func53, Tryd.ntmps53
    go_wp2_with (go_at_call 41; (with_reducible refine GI.out.mono ?_); rintro e w1 ⟨rfl, rfl⟩)
    go_ret
    exact ⟨rfl, h, TurnsIn.refl _ _⟩
  | false =>
    rw [if_neg (by decide)]
    rw [hoff] at GI
    unfold Dv.blown at GB
    by_cases hf : s.fuse = 0
    · rw [if_pos hf]
      rw [decide_eq_true hf] at GB
      clear hf
      go_enter Tryd.func53, Tryd.ntmps53
      go_wp2_with (first
        | (go_at_call 41; (with_reducible refine GI.out.mono ?_); rintro e w1 ⟨rfl, rfl⟩)
        | (go_at_call 43; (with_reducible refine GB.out.mono ?_); rintro e w1 ⟨rfl, hd, ht⟩))
      go_ret
      exact ⟨rfl, hd, ht⟩
    · rw [if_neg hf]
      rw [decide_eq_false hf] at GB
      clear hf h hoff
      generalize s.tick = s2 at *
      go_enter Tryd.func53, Tryd.ntmps53
      go_wp2_with (first
        | (go_at_call 41; (with_reducible refine GI.out.mono ?_); rintro e w1 ⟨rfl, rfl⟩)
        | (go_at_call 43; (with_reducible refine GB.out.mono ?_); rintro e w1 ⟨rfl, hd, ht⟩; have q3 := hd.reads.2.2.2.1; have hwt := hd.wt; obtain ⟨es, hown, hties⟩ := hwt)
        | (at_range; refine wpList_range_own _ rfl _ 89 rfl 3 22 keyI Tryd.underlying89 RW mw s2.waits.length (.map es) rfl hown ?_; intro w2 hrg hg hs))
      have hst := Going.start hd hties hrg hg
      have hok := Lib.hid hd.ok
      have hne := hd.ne
      have hIs := Lib.hid ht
      clear hg hs hd ht hown hties q3 hrg GI GB
      generalize hr : w1.heap.size = r at *
      clear hr
      go_frame
      go_loopw [3] (fun _ wr => ∃ left cnt kc, Going w1 wr I a mk mw r s2.waits.length s2 es left cnt kc) (fun _ wr => wr.rangeLeft mw r)
      case atStart => exact ⟨_, _, _, hst⟩
      case round =>
        clear hst
        obtain ⟨left, cnt, kc, hgo⟩ := hrel
        have hrg := hgo.rg
        go_wp2_with (at_next; refine wpList_next_ranges _ rfl _ rfl 3 keyI RW (Value.int .i64) id invK invV mw r s2.waits.length (.map es) left cnt rfl hrg ?_ ?_)
        · intro _ hl0
          obtain ⟨q3, w5, hclr, hD, hT⟩ := hgo.done hok.out hne hl0
          have HD := Lib.hid hD
          have HT := Lib.hid (hIs.out.trans hT)
          clear hgo hrg hD hT hl0
          go_wp2
          go_ret
          exact ⟨rfl, HD.out, HT.out⟩
        · intro x c kl y0 y1 w6 cnt1 hkey hlk hv hat hrg1 hlt hg1 hs1 hen
          obtain ⟨x', ex, rfl, hwx⟩ := Maps.keyOf_int_inv Tryd.underlying3 hkey
          cases ex
          obtain ⟨q2, ⟨g, m, rfl⟩, w7, hup, hgo7⟩ := hgo.step hok.out hne x c (y0, y1) hwx hlk hv hat hrg1 hg1
          have HG := Lib.hid hgo7
          have HM : Hid (w7.rangeLeft mw r < wr.rangeLeft mw r) := Lib.hid (by rw [hgo7.rg.left_eq, hgo.rg.left_eq]; exact hlt)
          clear hgo hrg hgo7 hkey hlk hv hat hrg1 hlt hg1 hs1 hwx
          go_wp2
          go_roundw
          case rel => exact ⟨_, _, _, HG.out⟩
          case measure => exact HM.out
end Go.Proofs.YtpnodocjpedcmaaDoor.Sec

namespace Go.Proofs.YtpnodocjpedcmaaDoor.Sec
open Go.ChangeShapes Go.WideShapes Go.ChangeAt Go.RowKit Go.Proofs.YtpnodocjpedcmaaDoor.Kit Go.Maps

/-- What becomes of a sector that waits, by what is picked for it. -/
def backStep (picks : List Int) (kept : Sl) (k : Nat) (p : Int × Option (List Int)) : Sl :=
  if picks.getD k 0 = 1 then putS kept p.1 p.2 else if picks.getD k 0 = 2 then putS kept p.1 none else kept
def backK (s : Dv) (picks : List Int) (n : Nat) : Sl := (List.range n).foldl (fun kept k => backStep picks kept k (s.waits.getD k (0, none))) s.kept
def Dv.back (s : Dv) (picks : List Int) : Dv := { s.down with kept := backK s picks s.waits.length, waits := [], fuse := -1, off := false }
theorem backK_next (s : Dv) (picks : List Int) (k : Nat) : backK s picks (k + 1) = backStep picks (backK s picks k) k (s.waits.getD k (0, none)) := by
  unfold backK
  rw [List.range_succ, List.foldl_append]
  rfl
theorem backStep_up {picks : List Int} {kept : Sl} {k : Nat} {p : Int × Option (List Int)} (h : Up kept) : Up (backStep picks kept k p) := by
  unfold backStep
  split
  · exact h.putS _ _
  · split
    · exact h.putS _ _
    · exact h
theorem mem_backStep {picks : List Int} {kept : Sl} {k : Nat} {p q : Int × Option (List Int)} (h : q ∈ backStep picks kept k p) : q.1 = p.1 ∨ q ∈ kept := by
  unfold backStep at h
  split at h
  · rcases mem_putS h with rfl | h
    · exact Or.inl rfl
    · exact Or.inr h
  · split at h
    · rcases mem_putS h with rfl | h
      · exact Or.inl rfl
      · exact Or.inr h
    · exact Or.inr h
theorem backK_ok {s : Dv} (hs : s.Ok) (picks : List Int) : ∀ k, k ≤ s.waits.length → Up (backK s picks k) ∧ ∀ p ∈ backK s picks k, 0 ≤ p.1 ∧ p.1 < s.count
  | 0, _ => ⟨hs.ku, hs.kr⟩
  | k + 1, hk => by
    obtain ⟨h1, h2⟩ := backK_ok hs picks k (by omega)
    rw [backK_next]
    refine ⟨backStep_up h1, fun p hp => ?_⟩
    rcases mem_backStep hp with e | hp
    · rw [e]
      refine hs.wr_ _ ?_
      rw [List.getD, List.getElem?_eq_getElem (show k < s.waits.length by omega)]
      exact List.getElem_mem _
    · exact h2 p hp
/-- A device with other sectors kept. -/
def Dv.with_ (s : Dv) (l : Sl) : Dv := { s with kept := l }
theorem Dv.Ok.with_ {s : Dv} (h : s.Ok) {l : Sl} (hu : Up l) (hr : ∀ p ∈ l, 0 ≤ p.1 ∧ p.1 < s.count) : (s.with_ l).Ok :=
  ⟨h.s1, h.s2, h.c1, h.c2, hu, h.wu, hr, h.wr_, h.wn, h.f1, h.f2, h.o1, h.w1⟩
theorem Dv.down_waits (s : Dv) : s.down.waits = s.waits := by
  unfold Dv.down
  split <;> rfl
theorem Dv.down_kept (s : Dv) : s.down.kept = s.kept := by
  unfold Dv.down
  split <;> rfl
theorem Dv.down_size (s : Dv) : s.down.size = s.size := by
  unfold Dv.down
  split <;> rfl
theorem Dv.down_off (s : Dv) : s.down.off = true := by
  unfold Dv.down
  split
  · assumption
  · rfl

section
variable {w w' : World} {I : Nat → Prop} {a mk mw : Nat} {s : Dv}
theorem DvAt.not_cells (h : DvAt w I a mk mw s) {g : Nat} {cs : Array Value} {t : TypeId} {f : Nat × Nat} (hg : w.heap[g]? = some (.cells cs t f)) (ht : t ≠ 91) : ¬ DSet a mk mw g := by
  rintro (rfl | rfl | rfl)
  · have := h.blk
    unfold Block at this
    rw [this] at hg
    injection hg with hg
    injection hg with _ e _
    exact ht e.symm
  · exact h.k.no_row _ _ _ hg
  · exact h.wt.no_row _ _ _ hg
theorem DvAt.not_byte (h : DvAt w I a mk mw s) {g o : Nat} {z : Int} (hg : w.cell? ⟨g, o, none⟩ = some (.int .u8 z)) : ¬ DSet a mk mw g := by
  obtain ⟨cs, t, f, h1, h2⟩ := Sort.cells_of_cell? hg
  rintro (rfl | rfl | rfl)
  · rw [h.blk.cell] at hg
    have := List.mem_of_getElem? (by rw [← Array.getElem?_toList] at hg; exact hg)
    unfold Dv.cells at this
    simp only [List.mem_cons, List.not_mem_nil, or_false] at this
    rcases this with e | e | e | e | e | e | e | e <;> cases e
  · exact h.k.no_row _ _ _ h1
  · exact h.wt.no_row _ _ _ h1
/-- Bytes stay while a device turns. -/
theorem DvAt.holds (h : DvAt w I a mk mw s) (t : TurnsIn (DSet a mk mw) w w') {B : Nat} {A : Option Addr} {xs : List Int} (hh : Holds w B .u8 A xs) (hB : B ≤ w.heap.size) : Holds w' B .u8 A xs := by
  intro hx
  obtain ⟨b, off, e, hb, hc⟩ := hh hx
  refine ⟨b, off, e, hb, fun j hj => ?_⟩
  exact (World.cell?_of_block (w := w) (a := ⟨b, _, none⟩) (t.block b (by omega) (h.not_byte (hc j hj)))).trans (hc j hj)
theorem DvAt.own (h : DvAt w I a mk mw s) (t : TurnsIn (DSet a mk mw) w w') {B : Nat} {e : TypeId} {k : IntKind} {v : Value} {xs : List Int} (ho : Own w B e k v xs) (he : e ≠ 91) : Own w' B e k v xs := by
  refine ho.out t fun g hg => ?_
  rcases ho.2 with ⟨rfl, _⟩ | ⟨g', cap, cur, rfl, _, hh, _⟩
  · simp [Value.ownBlock] at hg
  · obtain rfl : g' = g := by simpa [Value.ownBlock] using hg
    exact h.not_cells hh he
/-- A sector is kept. -/
theorem DvAt.keep {l : Sl} (h : DvAt w I a mk mw s) (hm : MapAt w' I RK mk s.size l) (hu : Up l) (hr : ∀ p ∈ l, 0 ≤ p.1 ∧ p.1 < s.count) (t : w.mapTurned w' mk) :
    DvAt w' I a mk mw (s.with_ l) ∧ TurnsIn (DSet a mk mw) w w' := by
  have tn : TurnsIn (fun x => x = mk) w w' := TurnsIn.ofGrown (row := some mk) t.grown fun x hx => (Option.some.inj hx).symm
  have hS : ∀ b, b = mk → I b → ∀ cs f, w.heap[b]? ≠ some (.cells cs 5 f) := fun b hb _ => h.no_row b (Or.inr (Or.inl hb))
  exact ⟨⟨h.blk.out tn h.ne_k, hm, h.wt.out tn (fun e => h.ne e.symm) hS, h.ne, h.ok.with_ hu hr⟩, tn.mono fun b _ hb => Or.inr (Or.inl hb)⟩
end
end Go.Proofs.YtpnodocjpedcmaaDoor.Sec

namespace Go.Proofs.YtpnodocjpedcmaaDoor.Sk
open Go.Proofs
open Go.Shelf
def keysA_ren : Go.Shelf.Ren := ⟨fun | 7 => 47 | 10 => 75 | n => n, fun | 23 => 89 | 26 => 3 | 3 => 22 | 28 => 100 | 0 => 0 | 27 => 99 | 33 => 117 | 4 => 4 | n => n, fun | n => n⟩
theorem keysA : Go.Proofs.SlLaysZI.n7 Tryd.prog keysA_ren := {
  mixed := by kernel_rfl
  f7 := ⟨Tryd.f47.name, by decide, Tryd.func47.trans (congrArg some (by kernel_rfl))⟩
  f10 := ⟨Tryd.f75.name, by decide, Tryd.func75.trans (congrArg some (by kernel_rfl))⟩
  t0 := Tryd.underlying0
  a0 := Tryd.isAgg0
  z0 := Tryd.sizeOf0
  v0 := Tryd.zeroValue0
  t4 := Tryd.underlying4
  a4 := Tryd.isAgg4
  z4 := Tryd.sizeOf4
  v4 := Tryd.zeroValue4
  t23 := Tryd.underlying89
  a23 := Tryd.isAgg89
  z23 := Tryd.sizeOf89
  v23 := Tryd.zeroValue89
  t26 := Tryd.underlying3
  a26 := Tryd.isAgg3
  z26 := Tryd.sizeOf3
  v26 := Tryd.zeroValue3
  t27 := Tryd.underlying99
  a27 := Tryd.isAgg99
  z27 := Tryd.sizeOf99
  v27 := Tryd.zeroValue99
  t28 := Tryd.underlying100
  a28 := Tryd.isAgg100
  z28 := Tryd.sizeOf100
  v28 := Tryd.zeroValue100
  t33 := Tryd.underlying117
  a33 := Tryd.isAgg117
  z33 := Tryd.sizeOf117
  v33 := Tryd.zeroValue117 }
def sortedA_ren : Go.Shelf.Ren := ⟨fun | 6 => 46 | 8 => 73 | 9 => 74 | 11 => 93 | 13 => 95 | 12 => 94 | 23 => 114 | 24 => 115 | 14 => 105 | 15 => 106 | 16 => 107 | 17 => 108 | 18 => 109 | 19 => 110 | 20 => 111 | 21 => 112 | 22 => 113 | 25 => 118 | 26 => 119 | 27 => 120 | 28 => 121 | 29 => 122 | 30 => 123 | 31 => 124 | n => n, fun | 26 => 3 | 28 => 100 | 24 => 97 | 0 => 0 | 3 => 3 | 37 => 157 | 48 => 150 | 50 => 29 | 4 => 4 | 40 => 176 | 39 => 175 | 45 => 180 | 5 => 5 | 9 => 9 | 51 => 184 | 55 => 187 | 57 => 189 | 58 => 190 | 33 => 117 | n => n, fun | n => n⟩
theorem sortedA : Go.Proofs.SlLaysZI.n6 Tryd.prog sortedA_ren := {
  mixed := by kernel_rfl
  f6 := ⟨Tryd.f46.name, by decide, Tryd.func46.trans (congrArg some (by kernel_rfl))⟩
  f8 := ⟨Tryd.f73.name, by decide, Tryd.func73.trans (congrArg some (by kernel_rfl))⟩
  f11 := ⟨Tryd.f93.name, by decide, Tryd.func93.trans (congrArg some (by kernel_rfl))⟩
  t0 := Tryd.underlying0
  a0 := Tryd.isAgg0
  z0 := Tryd.sizeOf0
  v0 := Tryd.zeroValue0
  t24 := Tryd.underlying97
  a24 := Tryd.isAgg97
  z24 := Tryd.sizeOf97
  v24 := Tryd.zeroValue97
  t26 := Tryd.underlying3
  a26 := Tryd.isAgg3
  z26 := Tryd.sizeOf3
  v26 := Tryd.zeroValue3
  t28 := Tryd.underlying100
  a28 := Tryd.isAgg100
  z28 := Tryd.sizeOf100
  v28 := Tryd.zeroValue100
  i26 := by kernel_rfl }
def sortA_ren : Go.Shelf.Ren := ⟨fun | 5 => 74 | 8 => 95 | 7 => 94 | 19 => 114 | 20 => 115 | 10 => 105 | 11 => 106 | 12 => 107 | 13 => 108 | 14 => 109 | 15 => 110 | 16 => 111 | 17 => 112 | 18 => 113 | 30 => 118 | 31 => 119 | 32 => 120 | 33 => 121 | 34 => 122 | 35 => 123 | 40 => 124 | n => n, fun | 23 => 97 | 25 => 3 | 3 => 3 | 32 => 157 | 22 => 97 | 0 => 0 | 44 => 150 | 46 => 29 | 4 => 4 | 36 => 176 | 35 => 175 | 41 => 180 | 5 => 5 | 9 => 9 | 53 => 184 | 57 => 187 | 63 => 189 | 64 => 190 | n => n, fun | n => n⟩
theorem sortA : Go.Proofs.SlLaysM.n5 Tryd.prog sortA_ren := {
  mixed := by kernel_rfl
  f5 := ⟨Tryd.f74.name, by decide, Tryd.func74.trans (congrArg some (by kernel_rfl))⟩
  f7 := ⟨Tryd.f94.name, by decide, Tryd.func94.trans (congrArg some (by kernel_rfl))⟩
  f8 := Tryd.func95.trans (congrArg some (by kernel_rfl))
  f10 := ⟨Tryd.f105.name, by decide, Tryd.func105.trans (congrArg some (by kernel_rfl))⟩
  f11 := ⟨Tryd.f106.name, by decide, Tryd.func106.trans (congrArg some (by kernel_rfl))⟩
  f12 := ⟨Tryd.f107.name, by decide, Tryd.func107.trans (congrArg some (by kernel_rfl))⟩
  f13 := ⟨Tryd.f108.name, by decide, Tryd.func108.trans (congrArg some (by kernel_rfl))⟩
  f14 := ⟨Tryd.f109.name, by decide, Tryd.func109.trans (congrArg some (by kernel_rfl))⟩
  f15 := ⟨Tryd.f110.name, by decide, Tryd.func110.trans (congrArg some (by kernel_rfl))⟩
  f16 := ⟨Tryd.f111.name, by decide, Tryd.func111.trans (congrArg some (by kernel_rfl))⟩
  f17 := ⟨Tryd.f112.name, by decide, Tryd.func112.trans (congrArg some (by kernel_rfl))⟩
  f18 := ⟨Tryd.f113.name, by decide, Tryd.func113.trans (congrArg some (by kernel_rfl))⟩
  f19 := Tryd.func114.trans (congrArg some (by kernel_rfl))
  f20 := Tryd.func115.trans (congrArg some (by kernel_rfl))
  f30 := ⟨Tryd.f118.name, by decide, Tryd.func118.trans (congrArg some (by kernel_rfl))⟩
  f31 := Tryd.func119.trans (congrArg some (by kernel_rfl))
  f32 := Tryd.func120.trans (congrArg some (by kernel_rfl))
  f33 := ⟨Tryd.f121.name, by decide, Tryd.func121.trans (congrArg some (by kernel_rfl))⟩
  f34 := ⟨Tryd.f122.name, by decide, Tryd.func122.trans (congrArg some (by kernel_rfl))⟩
  f35 := ⟨Tryd.f123.name, by decide, Tryd.func123.trans (congrArg some (by kernel_rfl))⟩
  f40 := ⟨Tryd.f124.name, by decide, Tryd.func124.trans (congrArg some (by kernel_rfl))⟩
  t0 := Tryd.underlying0
  a0 := Tryd.isAgg0
  z0 := Tryd.sizeOf0
  v0 := Tryd.zeroValue0
  t3 := Tryd.underlying3
  a3 := Tryd.isAgg3
  z3 := Tryd.sizeOf3
  v3 := Tryd.zeroValue3
  t4 := Tryd.underlying4
  a4 := Tryd.isAgg4
  z4 := Tryd.sizeOf4
  v4 := Tryd.zeroValue4
  t5 := Tryd.underlying5
  a5 := Tryd.isAgg5
  z5 := Tryd.sizeOf5
  v5 := Tryd.zeroValue5
  t9 := Tryd.underlying9
  a9 := Tryd.isAgg9
  z9 := Tryd.sizeOf9
  v9 := Tryd.zeroValue9
  t22 := Tryd.underlying97
  a22 := Tryd.isAgg97
  z22 := Tryd.sizeOf97
  v22 := Tryd.zeroValue97
  t23 := Tryd.underlying97
  a23 := Tryd.isAgg97
  z23 := Tryd.sizeOf97
  v23 := Tryd.zeroValue97
  t25 := Tryd.underlying3
  a25 := Tryd.isAgg3
  z25 := Tryd.sizeOf3
  v25 := Tryd.zeroValue3
  t32 := Tryd.underlying157
  a32 := Tryd.isAgg157
  z32 := Tryd.sizeOf157
  v32 := Tryd.zeroValue157
  t35 := Tryd.underlying175
  a35 := Tryd.isAgg175
  z35 := Tryd.sizeOf175
  v35 := Tryd.zeroValue175
  t36 := Tryd.underlying176
  a36 := Tryd.isAgg176
  z36 := Tryd.sizeOf176
  v36 := Tryd.zeroValue176
  t41 := Tryd.underlying180
  a41 := Tryd.isAgg180
  z41 := Tryd.sizeOf180
  v41 := Tryd.zeroValue180
  t44 := Tryd.underlying150
  a44 := Tryd.isAgg150
  z44 := Tryd.sizeOf150
  v44 := Tryd.zeroValue150
  t46 := Tryd.underlying29
  a46 := Tryd.isAgg29
  z46 := Tryd.sizeOf29
  v46 := Tryd.zeroValue29
  t53 := Tryd.underlying184
  a53 := Tryd.isAgg184
  z53 := Tryd.sizeOf184
  v53 := Tryd.zeroValue184
  t57 := Tryd.underlying187
  a57 := Tryd.isAgg187
  z57 := Tryd.sizeOf187
  v57 := Tryd.zeroValue187
  t63 := Tryd.underlying189
  a63 := Tryd.isAgg189
  z63 := Tryd.sizeOf189
  v63 := Tryd.zeroValue189
  t64 := Tryd.underlying190
  a64 := Tryd.isAgg190
  z64 := Tryd.sizeOf190
  v64 := Tryd.zeroValue190 }
end Go.Proofs.YtpnodocjpedcmaaDoor.Sk

namespace Go.Proofs.YtpnodocjpedcmaaDoor.Sk
open Go.RowKit Go.Maps Go.Sort Go.Shelf Go.Proofs Go.Proofs.YtpnodocjpedcmaaDoor.Kit Go.Proofs.YtpnodocjpedcmaaDoor.Sec Go.ChangeMaps

theorem sortsA (m : Nat) : AnyZI.SortsIn Tryd.prog sortedA_ren Fence.wide m :=
  ⟨fun blk off cap ss W hH hblk hsz => callsIn_wide.2 (AnyM.slices_Sort_int sortA blk off cap ss W hH hblk hsz),
   fun p cap W => callsIn_wide.2 (AnyM.slices_Sort_int_none sortA p cap W)⟩

theorem keys_any (mb : Option Nat) (W : World) : Calls Tryd.prog 47 #[.map mb] W fun e w' => e = .returned (.func (.func 75) #[] #[.pointer (some ⟨W.heap.size, 0, none⟩)]) ∧ w' = W.alloc (.cells #[.map mb] 89) :=
  (callsIn_wide (n := 5)).1 (AnyZI.keys_in keysA Fence.wide 5 trivial rfl mb W)

theorem sorted_any {H : Type} (b nn : Nat) (D0 : DataW H) (R : Value → Option (DataW H × List MemPlace)) (w : World) (hown : w.ownsMap Tryd.prog 3 R b nn D0) (hmax : Maps.size D0 ≤ maxLen) (hbytes : Maps.size D0 * 8 ≤ 140737488355328) :
    Calls Tryd.prog 46 #[.func (.func 75) #[] #[.pointer (some ⟨w.heap.size, 0, none⟩)]] (w.alloc (.cells #[.map (some b)] 89)) fun e w' => ∃ (v : Value) (ss : List Int), e = .returned v ∧ ss.Perm (intKeys D0) ∧
      w'.ownsRow (w.alloc (.cells #[.map (some b)] 89)).heap.size 3 1 v ss.length ((ss.mergeSort (fun x y => decide (x ≤ y))).map encZ) ∧ (v = .slice none 0 0 ↔ ss = []) ∧ Below (w.alloc (.cells #[.map (some b)] 89)).heap.size (w.alloc (.cells #[.map (some b)] 89)) w' := by
  refine (callsIn_wide (n := 5)).1 ?_
  have hbl := hown.lt
  have hseq : SeqGives Fence.wide 2 Tryd.prog 75 #[.pointer (some ⟨w.heap.size, 0, none⟩)] encZ (fun ss => ss.Perm (intKeys D0)) (Maps.size D0) (w.alloc (.cells #[.map (some b)] 89)) :=
    AnyZI.keys_gives (ρ := keysA_ren) { keysA with } Fence.wide _ trivial rfl (by omega) w.heap.size b nn D0 _ (by simp) (by simp) (by
      obtain ⟨es, clock, hb, Ft, hs, hD⟩ := hown
      exact ⟨es, clock, (Below.heap_alloc _ _ b hbl).trans hb, Ft, hs, hD⟩)
  exact (AnyZI.sorted_in sortedA Fence.wide 5 trivial trivial trivial trivial rfl (by omega) (sortsA _) (enters_of Tryd.func74 (by kernel_rfl) rfl) 75 #[.pointer (some ⟨w.heap.size, 0, none⟩)] trivial (enters_of Tryd.func75 (by kernel_rfl) rfl) _ _ hmax hbytes _ hseq).mono fun e w' h => h

/-- The sectors' numbers, in their order. -/
theorem keys_map {w : World} {I : Nat → Prop} {n : Nat} {es : List (Lit × DataW Unit)} {l : Sl} (h : Ties w I n es l) : intKeys (DataW.map es) = l.map (·.1) := by
  induction h with
  | nil => rfl
  | @cons p q es l hp _ ih =>
    have e : intKeys (DataW.map (p :: es)) = intKeys (DataW.map [p]) ++ intKeys (DataW.map es) := rfl
    rw [e, ih]
    obtain ⟨p1, p2⟩ := p
    obtain ⟨rfl, _⟩ := hp
    rfl
theorem sorted_keys {l : Sl} (hu : Up l) {ss : List Int} (h : ss.Perm (l.map (·.1))) : ss.mergeSort (fun x y => decide (x ≤ y)) = l.map (·.1) := by
  have e := mergeSort_of_perm_i h
  rw [e]
  apply List.mergeSort_of_pairwise
  have := hu
  unfold Up at this
  rw [List.pairwise_map]
  exact this.imp (fun h => by simp; omega)

/-- slices.Sorted(maps.Keys(m)), its second step. -/
def GivesK (l : Sl) (w : World) (e : Ending) (w' : World) : Prop := ∃ v, e = .returned v ∧ Own w' w.heap.size 3 .i64 v (l.map (·.1)) ∧ Below w.heap.size w w'
theorem sorted_map {w : World} {I : Nat → Prop} {R : Value → Option (DataW Unit × List MemPlace)} {b n : Nat} {l : Sl} (h : MapAt w I R b n l) (hu : Up l) (hl : l.length < 1000000000) :
    Calls Tryd.prog 46 #[.func (.func 75) #[] #[.pointer (some ⟨w.heap.size, 0, none⟩)]] (w.alloc (.cells #[.map (some b)] 89)) (GivesK l w) := by
  obtain ⟨es, h1, h2⟩ := h
  have hsz : Maps.size (DataW.map es) = l.length := h2.length
  have h8 : Maps.size (DataW.map es) * 8 ≤ 140737488355328 := by rw [hsz]; omega
  have hm : Maps.size (DataW.map es) ≤ maxLen := by rw [hsz]; exact Nat.le_of_lt (len_ok hl)
  refine (sorted_any b l.length (DataW.map es) R w h1 hm h8).mono fun e w' ⟨v, ss, he, hp, hown, _, hb⟩ => ⟨v, he, ?_, ?_⟩
  · rw [keys_map h2] at hp
    have hlen := hp.length_eq
    rw [sorted_keys hu hp] at hown
    rw [hlen] at hown
    exact Own.mono (B := (w.alloc (.cells #[.map (some b)] 89)).heap.size) hown (by simp)
  · exact ((Below.refl _ w).alloc (Nat.le_refl _) _).trans (hb.mono (by simp))
end Go.Proofs.YtpnodocjpedcmaaDoor.Sk

namespace Go.Proofs.YtpnodocjpedcmaaDoor.Sec
open Go.ChangeShapes Go.WideShapes Go.ChangeAt Go.RowKit Go.Proofs.YtpnodocjpedcmaaDoor.Kit Go.Maps Go.Proofs.YtpnodocjpedcmaaDoor.Sk

theorem backK_down (s : Dv) (picks : List Int) (n : Nat) : backK s.down picks n = backK s picks n := by
  unfold backK
  rw [s.down_waits, s.down_kept]
theorem back_form (s : Dv) (picks : List Int) : s.back picks = { s.down with kept := backK s.down picks s.down.waits.length, waits := [], fuse := -1, off := false } := by
  unfold Dv.back
  rw [backK_down, s.down_waits]

/-- It is back: nothing waits, no fuse, it is on. -/
theorem DvAt.returns {w : World} {I : Nat → Prop} {a mk mw : Nat} {s : Dv} (h : DvAt w I a mk mw s) :
    w.cell? ⟨a, 3, none⟩ = some (.map (some mw)) ∧ ∃ w1, (∀ ty, (Builtin.clear_ #[89] ty #[.map (some mw)]).run Tryd.prog w = .ok (.tuple #[]) w1) ∧
      (w1.cell? ⟨a, 6, none⟩ = some (.int .i64 s.fuse) ∧ w1.frozen? ⟨a, 6, none⟩ = false ∧ w1.cell? ⟨a, 4, none⟩ = some (.bool s.off) ∧ w1.frozen? ⟨a, 4, none⟩ = false) ∧
      DvAt ((w1.setCell ⟨a, 6, none⟩ (.int .i64 (-1))).setCell ⟨a, 4, none⟩ (.bool false)) I a mk mw { s with waits := [], fuse := -1, off := false } ∧
      TurnsIn (DSet a mk mw) w ((w1.setCell ⟨a, 6, none⟩ (.int .i64 (-1))).setCell ⟨a, 4, none⟩ (.bool false)) := by
  obtain ⟨w1, hrun, hm', ht⟩ := h.wt.clear Tryd.underlying89
  have t : TurnsIn (fun b => b = mw) w w1 := TurnsIn.ofGrown (row := some mw) ht.grown fun b hb => (Option.some.inj hb).symm
  have hS : ∀ b, b = mw → I b → ∀ cs f, w.heap[b]? ≠ some (.cells cs 5 f) := fun b hb _ => h.no_row b (Or.inr (Or.inr hb))
  have hh := h.ok
  have D1 : DvAt w1 I a mk mw { s with waits := [] } := ⟨h.blk.out t h.ne_w, h.k.out t h.ne hS, hm', h.ne, ⟨hh.s1, hh.s2, hh.c1, hh.c2, hh.ku, up_nil, hh.kr, fun _ h => (List.not_mem_nil h).elim, fun _ h => (List.not_mem_nil h).elim, hh.f1, hh.f2, hh.o1, hh.w1⟩⟩
  have h1 := D1.ok
  obtain ⟨D2, T2⟩ := D1.field 6 (.int .i64 (-1)) { s with waits := [], fuse := -1 } rfl rfl rfl rfl ⟨h1.s1, h1.s2, h1.c1, h1.c2, h1.ku, h1.wu, h1.kr, h1.wr_, h1.wn, Int.le_refl _, by show (-1 : Int) ≤ _; omega, h1.o1, h1.w1⟩
  have h2 := D2.ok
  obtain ⟨D3, T3⟩ := D2.field 4 (.bool false) { s with waits := [], fuse := -1, off := false } rfl rfl rfl rfl ⟨h2.s1, h2.s2, h2.c1, h2.c2, h2.ku, h2.wu, h2.kr, h2.wr_, h2.wn, h2.f1, h2.f2, h2.o1, h2.w1⟩
  exact ⟨h.blk.cell 3, w1, hrun, ⟨D1.blk.cell 6, D1.free 6, D1.blk.cell 4, D1.free 4⟩, D3, (t.mono fun b _ e => Or.inr (Or.inr e)).trans (T2.trans T3)⟩

/-- A round of Back. -/
structure BGoing (w0 w : World) (I : Nat → Prop) (a mk mw : Nat) (s : Dv) (v : Value) (B : Nat) (A : Option Addr) (xs : List Int) (kc : Sl) : Prop where
  d : DvAt w I a mk mw (s.with_ kc)
  t : TurnsIn (DSet a mk mw) w0 w
  own : Own w B 3 .i64 v (s.waits.map (·.1))
  p : Holds w w.heap.size .u8 A xs
theorem BGoing.drew {w0 w : World} {I : Nat → Prop} {a mk mw : Nat} {s : Dv} {v : Value} {B : Nat} {A : Option Addr} {xs : List Int} {kc : Sl} (h : BGoing w0 w I a mk mw s v B A xs kc) : BGoing w0 w.drew I a mk mw s v B A xs kc :=
  ⟨h.d.below (below_draws (Below.refl _ _) 1), h.t.drewN 1, h.own.drewN 1, h.p⟩
theorem BGoing.keep {w0 w w' : World} {I : Nat → Prop} {a mk mw : Nat} {s : Dv} {v : Value} {B : Nat} {A : Option Addr} {xs : List Int} {kc l : Sl} (h : BGoing w0 w I a mk mw s v B A xs kc) (hm : MapAt w' I RK mk s.size l) (hu : Up l) (hr : ∀ p ∈ l, 0 ≤ p.1 ∧ p.1 < s.count) (t : w.mapTurned w' mk) : BGoing w0 w' I a mk mw s v B A xs l := by
  obtain ⟨D, T⟩ := h.d.keep hm hu hr t
  exact ⟨D, h.t.trans T, h.d.own T h.own (by decide), (h.d.holds T h.p (Nat.le_refl _)).more T.size⟩

set_option maxRecDepth 100000 in
set_option maxHeartbeats 6400000 in
theorem back_any (I : Nat → Prop) (a mk mw : Nat) (s : Dv) (A : Option Addr) (xs : List Int) (c : Nat) (w : World) (h : DvAt w I a mk mw s) (hI : ∀ g, w.heap.size ≤ g → I g) (hx : xs.length ≤ 1000000000) (ho : Octets xs) (hr : Holds w w.heap.size .u8 A xs) (hof : s.offs ≤ 1000000000) :
    Calls Tryd.prog 14 #[.pointer (some ⟨a, 0, none⟩), .slice A xs.length c] w (Leaves I a mk mw w (s.back xs) (.tuple #[])) := by
  have GO := Lib.hid (off_any I a mk mw s w h hof)
  rw [back_form]
  have hold := Lib.hid (fun w1 (t : TurnsIn (DSet a mk mw) w w1) => (h.holds t hr (Nat.le_refl _)).more t.size)
  generalize s.down = s1 at *
  clear h hr hof
  go_enter Tryd.func14, Tryd.ntmps14
  go_wp2_with (first
    | (go_at_call 20; (with_reducible refine GO.out.mono ?_); rintro e w1 ⟨rfl, hd, ht⟩; have q3 := hd.reads.2.2.2.1; have HOK := Lib.hid hd.ok; have GS := Lib.hid (sorted_map hd.wt hd.ok.wu (waits_few hd.ok)))
    | (go_at_call 47; (with_reducible refine (keys_any _ _).mono ?_); rintro e w2 ⟨rfl, rfl⟩)
    | (go_at_call 46; (with_reducible refine GS.out.mono ?_); rintro e w3 ⟨v, rfl, own, hb3⟩; obtain ⟨A3, c3, he3, -⟩ := own.opened; rw [List.length_map] at he3; subst he3; have hgo : BGoing w w3 I a mk mw s1 (.slice A3 s1.waits.length c3) w1.heap.size A xs (backK s1 xs 0) := ⟨hd.below hb3, ht.trans (.ofNew hb3), own, (((hold.out _ ht).below hb3)).more hb3.size⟩; clear own hb3 hd ht q3))
  clear GO GS hold
  generalize w1.heap.size = B1 at *
  have hwf := waits_few HOK.out
  have HBK := Lib.hid (fun k hk => backK_ok HOK.out xs k hk)
  have HBN := Lib.hid (fun k => backK_next s1 xs k)
  have HW := Lib.hid HOK.out.wr_
  have HWN := Lib.hid HOK.out.wn
  have HKF := Lib.hid (fun (l : Sl) (hu : Up l) (hr : ∀ p ∈ l, 0 ≤ p.1 ∧ p.1 < s1.count) => (by have := up_length l 0 hu hr; have := HOK.out.c2; omega : l.length < 1000000000))
  have HC2 := HOK.out.c2
  go_loopw [18] (fun i wz => ∃ k : Nat, k ≤ s1.waits.length ∧ i = .int .i64 k ∧ BGoing w wz I a mk mw s1 (.slice A3 s1.waits.length c3) B1 A xs (backK s1 xs k)) (fun i _ => s1.waits.length - (intOf i).toNat)
  case atStart => exact ⟨0, Nat.zero_le _, rfl, hgo⟩
  case round =>
    clear hgo
    obtain ⟨k, hk, rfl, hgo⟩ := hrel
    by_cases hlt : k < s1.waits.length
    · have hks : (s1.waits.map (·.1)).length = s1.waits.length := List.length_map _
      obtain ⟨g, cap, he, hg1, hg2, _⟩ := hgo.own.form (by omega)
      rw [hks] at he
      injection he with he1 he2 he3
      subst he1 he3
      have hcell := hgo.own.cellAt (i := k) hks.symm (by omega)
      have hp : s1.waits[k]? = some (s1.waits.getD k (0, none)) := by simp [List.getD, List.getElem?_eq_getElem hlt]
      have hgk : (s1.waits.map (·.1)).getD k 0 = (s1.waits.getD k (0, none)).1 := by simp [List.getD, List.getElem?_eq_getElem hlt]
      have hgk' : (s1.waits.map (·.1))[k]?.getD 0 = (s1.waits.getD k (0, none)).1 := by rw [← hgk]; rfl
      have hmem : s1.waits.getD k (0, none) ∈ s1.waits := List.mem_of_getElem? hp
      obtain ⟨hx1, hx2⟩ := HW.out _ hmem
      have hsome := getS_some HOK.out.wu hmem
      have hnn := HWN.out _ hmem
      have hnext := HBN.out k
      obtain ⟨hup, hrg⟩ := HBK.out k (by omega)
      obtain ⟨hup1, hrg1⟩ := HBK.out (k + 1) hlt
      generalize s1.waits.getD k (0, none) = q at *
      obtain ⟨x, o⟩ := q
      cases o with
      | none => exact absurd rfl hnn
      | some ys =>
      rw [hgk'] at hcell
      simp only at hx1 hx2 hsome
      have hxb : -9223372036854775808 ≤ x ∧ x ≤ 9223372036854775807 := by omega
      have d1 : decide ((k : Int) < (s1.waits.length : Int)) = true := decide_eq_true (by omega)
      have d2 : decide (k < s1.waits.length) = true := decide_eq_true hlt
      generalize hkn : backK s1 xs (k + 1) = kn at *
      generalize hkc : backK s1 xs k = kc at *
      have HKN : Hid (backK s1 xs (k + 1) = kn) := Lib.hid hkn
      obtain ⟨y0, y1, y2, y3, y4, y5, y6, y7⟩ := hgo.d.reads
      clear hkn hkc hgk hp hmem hnn he2 hks
      unfold backStep at hnext
      by_cases hpl : k < xs.length
      · obtain ⟨bp, op, rfl, _, hcp⟩ := hgo.p (by omega)
        have hpick := hcp k hpl
        clear hcp
        generalize xs.getD k 0 = pk at *
        have d3 : decide ((k : Int) < (xs.length : Int)) = true := decide_eq_true (by omega)
        have d4 : decide (k < xs.length) = true := decide_eq_true hpl
        by_cases hp1 : pk = 1
        · rw [if_pos hp1] at hnext
          have b1 : (pk == 1) = true := by simpa using hp1
          have D := hgo.drew
          have Dk : MapAt wr.drew I RK mk s1.size kc := D.d.k
          have Dw : MapAt wr.drew I RW mw s1.size s1.waits := D.d.wt
          obtain ⟨g1, m1, hlk, hl1, ho1, hI1, own1⟩ := Dw.look_yes x hxb ys hsome false
          simp only [Bool.false_eq_true, if_false] at hlk
          obtain ⟨w6, hst, hm6, ht6⟩ := Dk.store Tryd.underlying88 hup (HKF.out kc hup hrg) x hxb _ (some ys) (GoodV.kept hI1 hl1 ho1 own1)
          have hnx := D.keep hm6 (by rw [← hnext]; exact hup1) (by rw [← hnext]; exact hrg1) ht6
          rw [← hnext, ← HKN.out] at hnx
          have HNX := Lib.hid hnx
          clear hnx hm6 ht6 own1 hl1 ho1 hI1 Dk Dw D hgo hnext hsome hup hrg hup1 hrg1 hp1 HKN
          go_wp2_with fail
          go_region
          all_goals
            go_wp2_with fail
            go_roundw
            case rel => exact ⟨k + 1, hlt, by go_num, HNX.out⟩
            case measure => simp [intOf] <;> omega
        · rw [if_neg hp1] at hnext
          have b1 : (pk == 1) = false := by simpa using hp1
          by_cases hp2 : pk = 2
          · rw [if_pos hp2] at hnext
            have b2 : (pk == 2) = true := by simpa using hp2
            have Dk : MapAt wr I RK mk s1.size kc := hgo.d.k
            obtain ⟨w6, hst, hm6, ht6⟩ := Dk.store Tryd.underlying88 hup (HKF.out kc hup hrg) x hxb _ none GoodV.torn
            have hnx := hgo.keep hm6 (by rw [← hnext]; exact hup1) (by rw [← hnext]; exact hrg1) ht6
            rw [← hnext, ← HKN.out] at hnx
            have HNX := Lib.hid hnx
            clear hnx hm6 ht6 Dk hgo hnext hsome hup hrg hup1 hrg1 hp1 hp2 HKN
            go_wp2_with fail
            go_roundw
            case rel => exact ⟨k + 1, hlt, by go_num, HNX.out⟩
            case measure => simp [intOf] <;> omega
          · rw [if_neg hp2] at hnext
            have b2 : (pk == 2) = false := by simpa using hp2
            rw [← hnext, ← HKN.out] at hgo
            have HNX := Lib.hid hgo
            clear hgo hnext hsome hup hrg hup1 hrg1 hp1 hp2 HKN
            go_wp2_with fail
            go_roundw
            case rel => exact ⟨k + 1, hlt, by go_num, HNX.out⟩
            case measure => simp [intOf] <;> omega
      · have hp0 : xs.getD k 0 = 0 := by simp [List.getD, List.getElem?_eq_none (by omega : xs.length ≤ k)]
        rw [hp0, if_neg (by decide), if_neg (by decide)] at hnext
        have d3 : decide ((k : Int) < (xs.length : Int)) = false := decide_eq_false (by omega)
        have d4 : decide (k < xs.length) = false := decide_eq_false hpl
        rw [← hnext, ← HKN.out] at hgo
        have HNX := Lib.hid hgo
        clear hgo hnext hsome hup hrg hup1 hrg1 HKN hp0
        go_wp2_with fail
        go_roundw
        case rel => exact ⟨k + 1, hlt, by go_num, HNX.out⟩
        case measure => simp [intOf] <;> omega
    · obtain rfl : k = s1.waits.length := by omega
      have d1 : decide ((s1.waits.length : Int) < (s1.waits.length : Int)) = false := decide_eq_false (by omega)
      have d2 : decide (s1.waits.length < s1.waits.length) = false := decide_eq_false (by omega)
      obtain ⟨q3, w5, hclr, ⟨z1, z2, z3, z4⟩, hD, hT⟩ := hgo.d.returns
      have HD := Lib.hid hD
      have HT := Lib.hid (hgo.t.trans hT)
      clear hgo hD hT
      go_wp2_with fail
      exact bodyPost_end (results_none rfl _ _ _) rfl ⟨rfl, HD.out, HT.out⟩
end Go.Proofs.YtpnodocjpedcmaaDoor.Sec

namespace Go.Proofs.YtpnodocjpedcmaaDoor.Sec
open Go.ChangeShapes Go.WideShapes Go.ChangeAt Go.RowKit Go.Proofs.YtpnodocjpedcmaaDoor.Kit Go.Maps

/-- The world stays. -/
def Tells (v : Value) (w : World) (e : Ending) (w' : World) : Prop := e = .returned v ∧ w = w'

theorem size_nil (w : World) : Calls Tryd.prog 57 #[.pointer none] w (Tells (.int .i64 0) w) := by
  go_enter Tryd.func57, Tryd.ntmps57
  go_wp2
  go_ret
  exact ⟨rfl, rfl⟩
theorem count_nil (w : World) : Calls Tryd.prog 58 #[.pointer none] w (Tells (.int .i64 0) w) := by
  go_enter Tryd.func58, Tryd.ntmps58
  go_wp2
  go_ret
  exact ⟨rfl, rfl⟩
theorem waits_nil (w : World) : Calls Tryd.prog 31 #[.pointer none] w (Tells (.int .i64 0) w) := by
  go_enter Tryd.func31, Tryd.ntmps31
  go_wp2
  go_ret
  exact ⟨rfl, rfl⟩
theorem writes_nil (w : World) : Calls Tryd.prog 32 #[.pointer none] w (Tells (.int .u64 0) w) := by
  go_enter Tryd.func32, Tryd.ntmps32
  go_wp2
  go_ret
  exact ⟨rfl, rfl⟩
theorem isOn_nil (w : World) : Calls Tryd.prog 41 #[.pointer none] w (Tells (.bool false) w) := by
  go_enter Tryd.func41, Tryd.ntmps41
  go_wp2
  go_ret
  exact ⟨rfl, rfl⟩
theorem fuse_nil (n : Int) (w : World) : Calls Tryd.prog 23 #[.pointer none, .int .i64 n] w (Tells (.tuple #[]) w) := by
  go_enter Tryd.func23, Tryd.ntmps23
  go_wp2
  exact bodyPost_end (results_none rfl _ _ _) rfl ⟨rfl, rfl⟩
theorem off_nil (w : World) : Calls Tryd.prog 20 #[.pointer none] w (Tells (.tuple #[]) w) := by
  go_enter Tryd.func20, Tryd.ntmps20
  go_wp2_with (go_at_call 41; refine (isOn_nil _).mono ?_; rintro e w1 ⟨rfl, rfl⟩)
  exact bodyPost_end (results_none rfl _ _ _) rfl ⟨rfl, rfl⟩
theorem back_nil (v : Value) (w : World) : Calls Tryd.prog 14 #[.pointer none, v] w (Tells (.tuple #[]) w) := by
  go_enter Tryd.func14, Tryd.ntmps14
  go_wp2
  exact bodyPost_ret (results_none rfl _ _ _) rfl ⟨rfl, rfl⟩
theorem read_nil (n : Int) (w : World) : Calls Tryd.prog 77 #[.pointer none, .int .i64 n] w (Tells (.tuple #[.slice none 0 0, .int .i64 8]) w) := by
  go_enter Tryd.func77, Tryd.ntmps77
  go_wp2_with (go_at_call 41; refine (isOn_nil _).mono ?_; rintro e w1 ⟨rfl, rfl⟩)
  go_ret2
  exact ⟨rfl, rfl⟩
theorem write_nil (n : Int) (v : Value) (w : World) : Calls Tryd.prog 12 #[.pointer none, .int .i64 n, v] w (Tells (.int .i64 8) w) := by
  go_enter Tryd.func12, Tryd.ntmps12
  go_wp2_with (go_at_call 41; refine (isOn_nil _).mono ?_; rintro e w1 ⟨rfl, rfl⟩)
  go_ret
  exact ⟨rfl, rfl⟩
theorem sync_nil (w : World) : Calls Tryd.prog 53 #[.pointer none] w (Tells (.int .i64 8) w) := by
  go_enter Tryd.func53, Tryd.ntmps53
  go_wp2_with (go_at_call 41; refine (isOn_nil _).mono ?_; rintro e w1 ⟨rfl, rfl⟩)
  go_ret
  exact ⟨rfl, rfl⟩

theorem new_arg (n m : Int) (w : World) (h : n < 128 ∨ 4096 < n ∨ m < 1 ∨ 1048576 < m) : Calls Tryd.prog 10 #[.int .i64 n, .int .i64 m] w (Tells (.tuple #[.pointer none, .int .i64 1]) w) := by
  cases h1 : decide (n < 128) <;> (try cases h2 : decide ((4096 : Int) < n)) <;> (try cases h3 : decide (m < 1)) <;> (try cases h4 : decide ((1048576 : Int) < m))
  case false.false.false.false =>
    simp only [decide_eq_false_iff_not] at h1 h2 h3 h4
    omega
  all_goals
    go_enter Tryd.func10, Tryd.ntmps10
    go_wp2
    go_ret2
    exact ⟨rfl, rfl⟩
end Go.Proofs.YtpnodocjpedcmaaDoor.Sec

namespace Go.Proofs.YtpnodocjpedcmaaDoor.Sec
open Go.ChangeShapes Go.WideShapes Go.ChangeAt Go.RowKit Go.Proofs.YtpnodocjpedcmaaDoor.Kit Go.Maps

/-- The bytes of a step. -/
def stepB (n : Nat) (b : Int) (long : Bool) : List Int := List.replicate n b ++ if long = true then [b] else []

end Go.Proofs.YtpnodocjpedcmaaDoor.Sec

namespace Go.Proofs.YtpnodocjpedcmaaDoor.Sec
open Go.ChangeShapes Go.WideShapes Go.ChangeAt Go.RowKit Go.Proofs.YtpnodocjpedcmaaDoor.Kit Go.Maps

/-- A device of the call's own, some steps on. -/
structure Dev (w0 w : World) (a mk mw : Nat) (s : Dv) : Prop where
  d : DvAt w (fun _ => True) a mk mw s
  b : Below w0.heap.size w0 w
  ga : w0.heap.size ≤ a
  gk : w0.heap.size ≤ mk
  gw : w0.heap.size ≤ mw

section
variable {w0 w w' : World} {a mk mw : Nat} {s s' : Dv}
theorem Dev.below (h : Dev w0 w a mk mw s) (hb : Below w.heap.size w w') : Dev w0 w' a mk mw s :=
  ⟨h.d.below hb, h.b.trans (hb.mono h.b.size), h.ga, h.gk, h.gw⟩
theorem Dev.turn (h : Dev w0 w a mk mw s) {I : Nat → Prop} (hd : DvAt w' I a mk mw s') (t : TurnsIn (DSet a mk mw) w w') : Dev w0 w' a mk mw s' :=
  ⟨hd.mono fun _ _ _ => trivial, h.b.trans (t.toBelow h.b.size fun b hb hs => by
    have h1 := h.ga
    have h2 := h.gk
    have h3 := h.gw
    rcases hs with rfl | rfl | rfl <;> omega), h.ga, h.gk, h.gw⟩
/-- What a step leaves of it. -/
def Moves (w0 : World) (a mk mw : Nat) (w : World) (s' : Dv) (v : Value) (e : Ending) (w' : World) : Prop :=
  e = .returned v ∧ Dev w0 w' a mk mw s' ∧ TurnsIn (DSet a mk mw) w w'
theorem Dev.moves (h : Dev w0 w a mk mw s) {v : Value} {f : Nat} {args : Array Value} (c : Calls Tryd.prog f args w (Leaves (fun _ => True) a mk mw w s' v)) : Calls Tryd.prog f args w (Moves w0 a mk mw w s' v) :=
  c.mono fun _ _ ⟨e, d, t⟩ => ⟨e, h.turn d t, t⟩
end

theorem own_block {w : World} {B : Nat} {e : TypeId} {k : IntKind} {v : Value} {xs : List Int} (h : Own w B e k v xs) (hl : xs.length = 128) : ∃ g cap : Nat, v = .slice (some ⟨g, 0, none⟩) 128 cap := by
  obtain ⟨g, cap, he, _⟩ := h.form (by omega)
  exact ⟨g, cap, by rw [he, hl]⟩

/-- The example's devices. -/
theorem example_ (X : List Int) (hl : X.length = 128) : ∃ s0 s1 s2 s3 s4 : Dv, Dv.new 128 3 = s0 ∧ s0.write 0 X = (0, s1) ∧ s1.back [1] = s2 ∧ s2.read 0 = (X, 0) ∧ s2.write 0 X = (0, s3) ∧ s3.back [2] = s4 ∧ s4.read 0 = ([], 7) ∧
    (s0.offs ≤ 1000000000 ∧ s0.wr ≤ 1000000000) ∧ (s1.offs ≤ 1000000000 ∧ s1.wr ≤ 1000000000) ∧ (s2.offs ≤ 1000000000 ∧ s2.wr ≤ 1000000000) ∧ s3.offs ≤ 1000000000 := by
  refine ⟨_, ⟨128, 3, [], [(0, some X)], false, 0, -1, 1⟩, ⟨128, 3, [(0, some X)], [], false, 1, -1, 1⟩, ⟨128, 3, [(0, some X)], [(0, some X)], false, 1, -1, 2⟩, ⟨128, 3, [(0, none)], [], false, 2, -1, 2⟩, rfl, ?_, ?_, ?_, ?_, ?_, ?_, ?_, ?_, ?_, ?_⟩
  · simp [Dv.write, Dv.writes, Dv.tick, Dv.new, putS, hl]
  · rfl
  · rfl
  · simp [Dv.write, Dv.writes, Dv.tick, putS, hl]
  · rfl
  · rfl
  · exact ⟨by show (0 : Int) ≤ _; decide, by show (0 : Int) ≤ _; decide⟩
  · exact ⟨by show (0 : Int) ≤ _; decide, by show (1 : Int) ≤ _; decide⟩
  · exact ⟨by show (1 : Int) ≤ _; decide, by show (1 : Int) ≤ _; decide⟩
  · show (1 : Int) ≤ _
    decide

end Go.Proofs.YtpnodocjpedcmaaDoor.Sec

namespace Go.Proofs.YtpnodocjpedcmaaDoor.Pt
open Go.ChangeShapes Go.WideShapes Go.ChangeAt Go.RowKit Go.Proofs.YtpnodocjpedcmaaDoor.Kit Go.Proofs.YtpnodocjpedcmaaDoor.Sec

/-- What is read is a sector. -/
def Whole (s : Dv) : Prop := ∀ i xs, s.read i = (xs, 0) → xs.length = s.size ∧ Octets xs
theorem ties_rows {w : World} {I : Nat → Prop} {n : Nat} {es : List (Go.Lit × Go.DataW Unit)} {l : Sl} (h : Ties w I n es l) : ∀ q ∈ l, ∀ xs, q.2 = some xs → xs.length = n ∧ Octets xs := by
  induction h with
  | nil => exact fun q hq => (List.not_mem_nil hq).elim
  | @cons p q es l ht _ ih =>
    intro x hx xs e
    rcases List.mem_cons.1 hx with rfl | hx
    · have := ht.2
      rw [e] at this
      obtain ⟨g, c, _, h1, h2, _⟩ := this
      exact ⟨h1, h2⟩
    · exact ih x hx xs e
theorem whole_of {w : World} {I : Nat → Prop} {a mk mw : Nat} {s : Dv} (h : DvAt w I a mk mw s) : Whole s := by
  obtain ⟨es1, _, h1⟩ := h.k
  obtain ⟨es2, _, h2⟩ := h.wt
  intro i xs e
  unfold Dv.read at e
  split at e
  · cases congrArg Prod.snd e
  split at e
  · cases congrArg Prod.snd e
  split at e
  · rename_i ys hg
    injection e with e _
    subst e
    exact ties_rows h2 _ (mem_getS hg) _ rfl
  · split at e
    · injection e with e _
      subst e
      exact ⟨List.length_replicate, fun x hx => by rw [(List.mem_replicate.1 hx).2]; omega⟩
    · cases congrArg Prod.snd e
    · rename_i ys hg
      injection e with e _
      subst e
      exact ties_rows h1 _ (mem_getS hg) _ rfl

/-- The sector of a byte of a region, the byte, whether it can be read. -/
def secP (s : Dv) (F : Int) (p : Nat) : List Int × Int := s.read (F + (p / s.size : Nat))
def byteP (s : Dv) (F : Int) (p : Nat) : Int := (secP s F p).1.getD (p % s.size) 0
def rowP (s : Dv) (F : Int) (a k : Nat) : List Int := (List.range k).map (fun j => byteP s F (a + j))
def OkP (s : Dv) (F : Int) (a k : Nat) : Prop := ∀ j, j < k → (secP s F (a + j)).2 = 0
/-- What reading n bytes from a on gives. -/
def ReadsP (s : Dv) (F : Int) (a n : Nat) (r : List Int × Int) : Prop :=
  (∃ k, k < n ∧ OkP s F a k ∧ (secP s F (a + k)).2 ≠ 0 ∧ r = ([], (secP s F (a + k)).2)) ∨ (OkP s F a n ∧ r = (rowP s F a n, 0))
theorem reads_one {s : Dv} {F : Int} {a n : Nat} {r t : List Int × Int} (h : ReadsP s F a n r) (g : ReadsP s F a n t) : r = t := by
  rcases h with ⟨k, hk, h1, h2, rfl⟩ | ⟨h1, rfl⟩ <;> rcases g with ⟨l, hl, g1, g2, rfl⟩ | ⟨g1, rfl⟩
  · rcases Nat.lt_trichotomy k l with h | h | h
    · exact absurd (g1 k h) h2
    · rw [h]
    · exact absurd (h1 l h) g2
  · exact absurd (g1 k hk) h2
  · exact absurd (h1 l hl) g2
  · rfl
theorem rowP_length (s : Dv) (F : Int) (a k : Nat) : (rowP s F a k).length = k := by simp [rowP]
theorem rowP_add (s : Dv) (F : Int) (a k m : Nat) : rowP s F a (k + m) = rowP s F a k ++ rowP s F (a + k) m := by
  unfold rowP
  rw [List.range_add, List.map_append, List.map_map]
  congr 1
  refine List.map_congr_left fun j _ => ?_
  show byteP s F (a + (k + j)) = byteP s F (a + k + j)
  rw [Nat.add_assoc]
theorem in_sector {n p m j : Nat} (hm : m ≤ n - p % n) (hj : j < m) : (p + j) / n = p / n ∧ (p + j) % n = p % n + j := by
  rcases Nat.eq_zero_or_pos n with rfl | hn
  · simp at hm
    omega
  · have h1 := Nat.div_add_mod p n
    have h2 := Nat.mod_lt p hn
    have h3 : p + j = n * (p / n) + (p % n + j) := by omega
    refine ⟨?_, ?_⟩
    · rw [h3, Nat.mul_add_div hn, Nat.div_eq_of_lt (by omega : p % n + j < n), Nat.add_zero]
    · rw [h3, Nat.mul_add_mod, Nat.mod_eq_of_lt (by omega)]
theorem secP_same {s : Dv} {F : Int} {p m j : Nat} (hm : m ≤ s.size - p % s.size) (hj : j < m) : secP s F (p + j) = secP s F p := by
  unfold secP
  rw [(in_sector hm hj).1]
/-- A sector's piece. -/
theorem piece {s : Dv} {F : Int} {p m : Nat} {xs : List Int} (hx : xs.length = s.size) (h : secP s F p = (xs, 0)) (hm : m ≤ s.size - p % s.size) : (xs.drop (p % s.size)).take m = rowP s F p m := by
  apply List.ext_getElem
  · rw [List.length_take, List.length_drop, rowP_length, hx]
    omega
  · intro j h1 h1'
    have h2 := h1'
    rw [rowP_length] at h2
    have e : (rowP s F p m)[j]'h1' = byteP s F (p + j) := by simp [rowP]
    rw [e, List.getElem_take, List.getElem_drop]
    unfold byteP
    rw [secP_same hm h2, h, (in_sector hm h2).2]
    simp only
    rw [List.getD, List.getElem?_eq_getElem (by omega : p % s.size + j < xs.length)]
    rfl
theorem okP_add {s : Dv} {F : Int} {a k m : Nat} (h : OkP s F a k) (hm : m ≤ s.size - (a + k) % s.size) (h0 : (secP s F (a + k)).2 = 0) : OkP s F a (k + m) := by
  intro j hj
  by_cases hk : j < k
  · exact h j hk
  · have e : a + j = (a + k) + (j - k) := by omega
    rw [e, secP_same hm (by omega)]
    exact h0
theorem rowP_octets {s : Dv} {F : Int} (hw : Whole s) : ∀ {a k : Nat}, OkP s F a k → Octets (rowP s F a k) := by
  intro a k h x hx
  unfold rowP at hx
  obtain ⟨j, hj, rfl⟩ := List.mem_map.1 hx
  have h0 := h j (List.mem_range.1 hj)
  unfold byteP
  have hr := hw (F + ((a + j) / s.size : Nat)) (secP s F (a + j)).1 (by
    show secP s F (a + j) = _
    rw [← h0])
  rw [List.getD]
  cases hg : (secP s F (a + j)).1[(a + j) % s.size]? with
  | none => simp
  | some y => exact hr.2 y (List.mem_of_getElem? hg)
end Go.Proofs.YtpnodocjpedcmaaDoor.Pt

namespace Go.Proofs.YtpnodocjpedcmaaDoor.Pt
open Go.ChangeShapes Go.WideShapes Go.ChangeAt Go.RowKit Go.Proofs.YtpnodocjpedcmaaDoor.Kit Go.Proofs.YtpnodocjpedcmaaDoor.Sec

/-- Bytes, and zeros to the end of the sector. -/
def padB (n : Nat) (xs : List Int) : List Int := xs ++ List.replicate (n - xs.length) 0
/-- The k-th sector that is written. -/
def chunkP (n : Nat) (bs : List Int) (k : Nat) : List Int := padB n ((bs.drop (k * n)).take n)
theorem padB_length {n : Nat} {xs : List Int} (h : xs.length ≤ n) : (padB n xs).length = n := by
  unfold padB
  rw [List.length_append, List.length_replicate]
  omega
theorem chunkP_length (n : Nat) (bs : List Int) (k : Nat) : (chunkP n bs k).length = n := padB_length (by rw [List.length_take]; omega)
theorem chunkP_octets {n : Nat} {bs : List Int} (h : Octets bs) (k : Nat) : Octets (chunkP n bs k) := by
  intro x hx
  unfold chunkP padB at hx
  rcases List.mem_append.1 hx with hx | hx
  · exact h x (List.mem_of_mem_drop (List.mem_of_mem_take hx))
  · rw [(List.mem_replicate.1 hx).2]
    omega
/-- The device behind k writes. -/
def wrS (s : Dv) (i : Int) (bs : List Int) : Nat → Dv
  | 0 => s
  | k + 1 => ((wrS s i bs k).write (i + k) (chunkP s.size bs k)).2
def errS (s : Dv) (i : Int) (bs : List Int) (k : Nat) : Int := ((wrS s i bs k).write (i + k) (chunkP s.size bs k)).1
def OkW (s : Dv) (i : Int) (bs : List Int) (k : Nat) : Prop := ∀ j, j < k → errS s i bs j = 0
/-- How many sectors are written. -/
def manyP (n : Nat) (bs : List Int) : Nat := (bs.length + n - 1) / n
def WritesP (s : Dv) (i : Int) (bs : List Int) (r : Int × Dv) : Prop :=
  (∃ k, k < manyP s.size bs ∧ OkW s i bs k ∧ errS s i bs k ≠ 0 ∧ r = (errS s i bs k, wrS s i bs (k + 1))) ∨ (OkW s i bs (manyP s.size bs) ∧ r = (0, wrS s i bs (manyP s.size bs)))
theorem writes_one {s : Dv} {i : Int} {bs : List Int} {r t : Int × Dv} (h : WritesP s i bs r) (g : WritesP s i bs t) : r = t := by
  rcases h with ⟨k, hk, h1, h2, rfl⟩ | ⟨h1, rfl⟩ <;> rcases g with ⟨l, hl, g1, g2, rfl⟩ | ⟨g1, rfl⟩
  · rcases Nat.lt_trichotomy k l with h | h | h
    · exact absurd (g1 k h) h2
    · rw [h]
    · exact absurd (h1 l h) g2
  · exact absurd (g1 k hk) h2
  · exact absurd (h1 l hl) g2
  · rfl
theorem manyP_iff {n : Nat} (hn : 0 < n) (bs : List Int) (k : Nat) : k < manyP n bs ↔ k * n < bs.length := by
  unfold manyP
  rw [Nat.lt_iff_add_one_le, Nat.le_div_iff_mul_le hn, Nat.add_mul, Nat.one_mul]
  omega
theorem write_near (s : Dv) (i : Int) (xs : List Int) : (s.write i xs).2.offs ≤ s.offs + 1 ∧ (s.write i xs).2.wr ≤ s.wr + 1 ∧ (s.write i xs).2.size = s.size ∧ (s.write i xs).2.count = s.count := by
  have ht : ∀ u : Dv, u.tick.offs ≤ u.offs + 1 ∧ u.tick.wr = u.wr ∧ u.tick.size = u.size ∧ u.tick.count = u.count := by
    intro u
    unfold Dv.tick Dv.down
    split
    · exact ⟨by omega, rfl, rfl, rfl⟩
    · split
      · split
        · exact ⟨by omega, rfl, rfl, rfl⟩
        · exact ⟨Int.le_refl _, rfl, rfl, rfl⟩
      · exact ⟨by show u.offs ≤ _; omega, rfl, rfl, rfl⟩
  unfold Dv.write
  split
  · exact ⟨by show s.offs ≤ _; omega, by show s.wr ≤ _; omega, rfl, rfl⟩
  split
  · exact ⟨by show s.offs ≤ _; omega, by show s.wr ≤ _; omega, rfl, rfl⟩
  split
  · exact ⟨by show s.offs ≤ _; omega, by show s.wr ≤ _; omega, rfl, rfl⟩
  have h := ht (s.writes i xs)
  split
  · exact ⟨h.1, by have h2 := h.2.1; have h3 : (s.writes i xs).wr = s.wr := rfl; show (s.writes i xs).tick.wr ≤ _; omega, h.2.2.1, h.2.2.2⟩
  · exact ⟨h.1, Int.le_refl _, h.2.2.1, h.2.2.2⟩
theorem wrS_near (s : Dv) (i : Int) (bs : List Int) : ∀ k, (wrS s i bs k).offs ≤ s.offs + k ∧ (wrS s i bs k).wr ≤ s.wr + k ∧ (wrS s i bs k).size = s.size ∧ (wrS s i bs k).count = s.count
  | 0 => ⟨by show s.offs ≤ s.offs + ((0 : Nat) : Int); omega, by show s.wr ≤ s.wr + ((0 : Nat) : Int); omega, rfl, rfl⟩
  | k + 1 => by
    obtain ⟨h1, h2, h3, h4⟩ := wrS_near s i bs k
    obtain ⟨g1, g2, g3, g4⟩ := write_near (wrS s i bs k) (i + k) (chunkP s.size bs k)
    refine ⟨?_, ?_, g3.trans h3, g4.trans h4⟩
    · show ((wrS s i bs k).write (i + k) (chunkP s.size bs k)).2.offs ≤ _
      omega
    · show ((wrS s i bs k).write (i + k) (chunkP s.size bs k)).2.wr ≤ _
      omega
end Go.Proofs.YtpnodocjpedcmaaDoor.Pt

namespace Go.Proofs.YtpnodocjpedcmaaDoor.Pt
open Go.ChangeShapes Go.WideShapes Go.ChangeAt Go.RowKit Go.Proofs.YtpnodocjpedcmaaDoor.Kit Go.Proofs.YtpnodocjpedcmaaDoor.Sec

theorem isin_any (x a b : Int) (w : World) : Calls Tryd.prog 96 #[.int .i64 x, .int .i64 a, .int .i64 b] w fun e w' => e = .returned (.bool (decide (a ≤ x ∧ x ≤ b))) ∧ w = w' := by
  by_cases h1 : a ≤ x
  · by_cases h2 : x ≤ b
    · rw [decide_eq_true (show a ≤ x ∧ x ≤ b from ⟨h1, h2⟩)]
      have q : decide (x ≤ b) = true := by simpa using h2
      go_enter Tryd.func96, Tryd.ntmps96
      go_wp2
      go_ret
      exact ⟨rfl, rfl⟩
    · rw [decide_eq_false (show ¬ (a ≤ x ∧ x ≤ b) from fun h => h2 h.2)]
      have q : decide (x ≤ b) = false := by simpa using h2
      go_enter Tryd.func96, Tryd.ntmps96
      go_wp2
      go_ret
      exact ⟨rfl, rfl⟩
  · rw [decide_eq_false (show ¬ (a ≤ x ∧ x ≤ b) from fun h => h1 h.1)]
    go_enter Tryd.func96, Tryd.ntmps96
    go_wp2
    go_ret
    exact ⟨rfl, rfl⟩

/-- A part of the device in block a lies in block p. -/
def PartAt (w : World) (p a : Nat) (F C : Int) : Prop := Block w p 139 #[.pointer (some ⟨a, 0, none⟩), .int .i64 F, .int .i64 C]
/-- A region that is there; T: how many bytes it has. -/
structure Lies (s : Dv) (F C : Int) (T : Nat) : Prop where
  f0 : 0 ≤ F
  c1 : 1 ≤ C
  fc : F + C ≤ s.count
  t : C * (s.size : Int) = T
theorem Lies.most {s : Dv} {F C : Int} {T : Nat} (h : Lies s F C T) (hs : s.Ok) : T ≤ 4294967296 := by
  have h1 : C ≤ 1048576 := by have := h.fc; have := h.f0; have := hs.c2; omega
  have h2 := h.c1
  have h3 : (s.size : Int) ≤ 4096 := by have := hs.s2; omega
  have h4 : C * (s.size : Int) ≤ 1048576 * 4096 := Int.mul_le_mul h1 h3 (by omega) (by omega)
  have := h.t
  omega

set_option maxRecDepth 100000 in
set_option maxHeartbeats 3200000 in
theorem psize_any (I : Nat → Prop) (p a mk mw : Nat) (F C : Int) (T : Nat) (s : Dv) (w : World) (hp : PartAt w p a F C) (h : DvAt w I a mk mw s) (hl : Lies s F C T) :
    Calls Tryd.prog 97 #[.pointer (some ⟨p, 0, none⟩)] w fun e w' => e = .returned (.int .i64 T) ∧ ∃ n, w' = w.drewN n := by
  have x0 : w.cell? ⟨p, 0, none⟩ = some (.pointer (some ⟨a, 0, none⟩)) := hp.cell 0
  have x1 : w.cell? ⟨p, 1, none⟩ = some (.int .i64 F) := hp.cell 1
  have x2 : w.cell? ⟨p, 2, none⟩ = some (.int .i64 C) := hp.cell 2
  have HD : Hid (∀ n, DvAt (w.drewN n) I a mk mw s) := Lib.hid (fun n => h.below (below_draws (Below.refl _ _) n))
  have hm := hl.t
  have hT := hl.most h.ok
  clear h hl hp
  go_enter Tryd.func97, Tryd.ntmps97
  go_wp2_with fail
  go_quiet ((go_at_call 57; exact Calls.quiet_of_same ((size_any I a mk mw s _ (HD.out _)).mono fun _ _ h => ⟨h.1, h.2.symm⟩)))
  go_wp2_with fail
  go_ret
  exact ⟨rfl, nq, rfl⟩

set_option maxRecDepth 100000 in
set_option maxHeartbeats 3200000 in
theorem has_any (I : Nat → Prop) (p a mk mw : Nat) (F C : Int) (T : Nat) (s : Dv) (x n : Int) (w : World) (hp : PartAt w p a F C) (h : DvAt w I a mk mw s) (hl : Lies s F C T) (hx : -9223372036854775808 ≤ x ∧ x ≤ 9223372036854775807) :
    Calls Tryd.prog 76 #[.pointer (some ⟨p, 0, none⟩), .int .i64 x, .int .i64 n] w fun e w' => e = .returned (.bool (decide (0 ≤ x ∧ x ≤ T ∧ 0 ≤ n ∧ n ≤ T - x))) ∧ ∃ k, w' = w.drewN k := by
  have GS := Lib.hid (fun k => psize_any I p a mk mw F C T s (w.drewN k) hp (h.below (below_draws (Below.refl _ _) k)) hl)
  have GS0 := Lib.hid (psize_any I p a mk mw F C T s w hp h hl)
  have hT := hl.most h.ok
  clear hp h hl
  by_cases h1 : 0 ≤ x ∧ x ≤ (T : Int)
  · rw [show decide (0 ≤ x ∧ x ≤ (T : Int) ∧ 0 ≤ n ∧ n ≤ (T : Int) - x) = decide (0 ≤ n ∧ n ≤ (T : Int) - x) by rw [decide_eq_decide]; omega]
    have GI1 := Lib.hid (fun W => isin_any x 0 T W)
    have GI2 := Lib.hid (fun W => isin_any n 0 ((T : Int) - x) W)
    rw [decide_eq_true h1] at GI1
    generalize decide (0 ≤ n ∧ n ≤ (T : Int) - x) = b at *
    go_enter Tryd.func76, Tryd.ntmps76
    go_wp2_with (first
      | (go_at_call 97; (with_reducible refine GS0.out.mono ?_); rintro e w1 ⟨rfl, k1, rfl⟩; clear GS0)
      | (go_at_call 97; (with_reducible refine (GS.out k1).mono ?_); rintro e w1 ⟨rfl, k2, rfl⟩)
      | (go_at_call 96; (with_reducible refine (GI1.out _).mono ?_); rintro e w1 ⟨rfl, rfl⟩)
      | (go_at_call 96; (with_reducible refine (GI2.out _).mono ?_); rintro e w1 ⟨rfl, rfl⟩))
    go_ret
    exact ⟨rfl, k1 + k2, rfl⟩
  · rw [decide_eq_false (fun h => h1 ⟨h.1, h.2.1⟩)]
    have GI1 := Lib.hid (fun W => isin_any x 0 T W)
    rw [decide_eq_false h1] at GI1
    go_enter Tryd.func76, Tryd.ntmps76
    go_wp2_with (first
      | (go_at_call 97; (with_reducible refine GS0.out.mono ?_); rintro e w1 ⟨rfl, k1, rfl⟩)
      | (go_at_call 96; (with_reducible refine (GI1.out _).mono ?_); rintro e w1 ⟨rfl, rfl⟩))
    go_ret
    exact ⟨rfl, k1, rfl⟩
end Go.Proofs.YtpnodocjpedcmaaDoor.Pt

namespace Go.Proofs.YtpnodocjpedcmaaDoor.Kit
open Go.ChangeShapes Go.WideShapes Go.ChangeAt Go.RowKit

theorem conv_bytes {P : Program} {t e ts : TypeId} (ht : P.underlying t = some (.slice e)) (he : P.underlying e = some (.int .u8)) (hs : P.underlying ts = some .string)
    (w : World) (A : Option Addr) (xs : List Int) (c B : Nat) (hr : Holds w B .u8 A xs) :
    (convert t ts (.slice A xs.length c)).run P w = .ok (.string (strOfNums xs)) w := by
  rcases Nat.eq_zero_or_pos xs.length with h0 | h0
  · obtain rfl : xs = [] := List.eq_nil_of_length_eq_zero h0
    cases A with
    | none => exact run_convert_bytes_nil w _ _ ht he _ _ _ hs
    | some ad =>
      have hl : (loadCells ad 0).run P w = .ok (([] : List Int).map (Value.int .u8)).toArray w := by simpa using run_loadCells_list (P := P) w ad [] (by simp)
      rw [run_convert_bytes_string w _ _ e _ _ c ht he hs]
      rw [show ([] : List Int).length = 0 from rfl, run_bytesToString w ad 0 c [] hl]
      rfl
  · obtain ⟨b, off, rfl, _, hc⟩ := hr h0
    exact run_convert_bytes_arg w _ _ ht he b off xs.length c xs rfl hc _ hs

/-- No block is both rows'. -/
def Apart (u v : Value) : Prop := ∀ b, u.ownBlock = some b → v.ownBlock ≠ some b
theorem Apart.symm {u v : Value} (h : Apart u v) : Apart v u := fun b hb hu => h b hu hb
theorem Apart.newer {w : World} {u v v' : Value} (h : Apart u v) (hu : ∀ b, u.ownBlock = some b → b < w.heap.size) (n : Newer w v v') : Apart u v' := by
  intro b hb
  rcases n with n | n
  · rw [n]; exact h b hb
  · intro he
    have h1 := n b he
    have h2 := hu b hb
    omega
theorem Own.top {w : World} {B : Nat} {e : TypeId} {k : IntKind} {v : Value} {xs : List Int} (h : Own w B e k v xs) : ∀ b, v.ownBlock = some b → b < w.heap.size := fun b hb => (h.lt b hb).2
/-- A new row is apart from all that was there. -/
theorem Apart.new {w w' : World} {B : Nat} {e : TypeId} {k : IntKind} {u v : Value} {xs : List Int} (h : Own w' B e k v xs) (hB : w.heap.size ≤ B) (hu : ∀ b, u.ownBlock = some b → b < w.heap.size) : Apart u v := by
  intro b hb he
  have h1 := h.lt b he
  have h2 := hu b hb
  omega

/-- n elements from the p-th on. -/
theorem Holds.sub {w : World} {B : Nat} {k : IntKind} {b off : Nat} {xs : List Int} (h : Holds w B k (some ⟨b, off, none⟩) xs) (p n : Nat) (hn : p + n ≤ xs.length) : Holds w B k (some ⟨b, off + p, none⟩) ((xs.drop p).take n) := by
  intro hx
  have hl : ((xs.drop p).take n).length = n := by simp; omega
  rw [hl] at hx
  obtain ⟨b2, o2, hA, hb, hc⟩ := h (by omega)
  injection hA with hA
  injection hA with e1 e2
  subst e1 e2
  refine ⟨b, off + p, rfl, hb, fun j hj => ?_⟩
  rw [hl] at hj
  rw [Nat.add_assoc, hc (p + j) (by omega)]
  simp [List.getD, List.getElem?_take, hj]
end Go.Proofs.YtpnodocjpedcmaaDoor.Kit

namespace Go.Proofs.YtpnodocjpedcmaaDoor.Pt
open Go.ChangeShapes Go.WideShapes Go.ChangeAt Go.RowKit Go.Proofs.YtpnodocjpedcmaaDoor.Kit Go.Proofs.YtpnodocjpedcmaaDoor.Sec

def PRead (s : Dv) (F : Int) (T : Nat) (x n : Int) (r : List Int × Int) : Prop :=
  if 0 ≤ x ∧ x ≤ T ∧ 0 ≤ n ∧ n ≤ T - x then ReadsP s F x.toNat n.toNat r else r = ([], 5)

set_option maxRecDepth 100000 in
set_option maxHeartbeats 6400000 in
theorem pread_any (I : Nat → Prop) (p a mk mw : Nat) (F C : Int) (T : Nat) (s : Dv) (x n : Int) (w : World) (hp : PartAt w p a F C) (h : DvAt w I a mk mw s) (hl : Lies s F C T) (hx : -9223372036854775808 ≤ x ∧ x ≤ 9223372036854775807) :
    Calls Tryd.prog 49 #[.pointer (some ⟨p, 0, none⟩), .int .i64 x, .int .i64 n] w fun e w' => ∃ r, PRead s F T x n r ∧ GivesB r.1 r.2 w e w' := by
  have GH := Lib.hid (has_any I p a mk mw F C T s x n w hp h hl hx)
  unfold PRead
  by_cases hin : 0 ≤ x ∧ x ≤ (T : Int) ∧ 0 ≤ n ∧ n ≤ (T : Int) - x
  · rw [decide_eq_true hin] at GH
    obtain ⟨b, rfl⟩ : ∃ b : Nat, x = (b : Int) := ⟨x.toNat, by omega⟩
    obtain ⟨N, rfl⟩ : ∃ N : Nat, n = (N : Int) := ⟨n.toNat, by omega⟩
    simp only [if_pos hin, Int.toNat_natCast]
    have hT := hl.most h.ok
    have hs1 := h.ok.s1
    have hs2 := h.ok.s2
    have hW := Lib.hid (whole_of h)
    have HL := Lib.hid hl
    have HPD := Lib.hid (fun W (hb : Below w.heap.size w W) => (⟨hp.below hb (Block.lt hp), h.below hb⟩ : PartAt W p a F C ∧ DvAt W I a mk mw s))
    clear hp h hl hx
    go_enter Tryd.func49, Tryd.ntmps49
    go_wp2_with (go_at_call 76; (with_reducible refine GH.out.mono ?_); rintro e w1 ⟨rfl, k1, hk1⟩
                 have B1 : Below w.heap.size w w1 := by rw [hk1]; exact below_draws (Below.refl _ _) k1
                 have x0 : w1.cell? ⟨p, 0, none⟩ = some (.pointer (some ⟨a, 0, none⟩)) := (HPD.out _ B1).1.cell 0
                 clear hk1 GH)
    refine (size_any I a mk mw s _ (HPD.out _ B1).2).mono ?_
    rintro e w2 ⟨rfl, rfl⟩
    go_wp2_with (at_make; refine wpList_make_ints _ rfl _ _ _ rfl elem8 0 N rfl rfl rfl rfl (Nat.zero_le _) (by omega) ?_; intro w2 own2 hb2 hz2)
    have own3 : Own w2 w.heap.size 5 .u8 (.slice (some ⟨w1.heap.size, 0, none⟩) 0 N) (rowP s F b 0) := own2.mono B1.size
    have B2 := B1.trans (hb2.mono B1.size)
    have HO3 := Lib.hid own3
    clear own2 own3 hb2 hz2 x0
    have hCS := HL.out.t
    go_loopw [1, 9] (fun q v wr => ∃ P k : Nat, P = b + k ∧ k ≤ N ∧ q = .int .i64 (P : Int) ∧ Own wr w.heap.size 5 .u8 v (rowP s F b k) ∧ OkP s F b k ∧ Below w.heap.size w wr) (fun q _ _ => b + N - (intOf q).toNat)
    case atStart => exact ⟨b, 0, rfl, Nat.zero_le _, rfl, HO3.out, fun j hj => absurd hj (by omega), B2⟩
    case round =>
      clear HO3 B2 B1
      obtain ⟨P, k, hP, hk, rfl, own, hok, hb⟩ := hrel
      obtain ⟨A2, c2, hv, hc2, hm2, -⟩ := own.opened
      rw [rowP_length] at hv hc2
      subst hv
      by_cases hlt : k < N
      · have d0 : decide ((k : Int) < (N : Int)) = true := decide_eq_true (by omega)
        obtain ⟨xs, E, hsec⟩ : ∃ xs E, secP s F P = (xs, E) := ⟨_, _, rfl⟩
        obtain ⟨Q, hQ⟩ : ∃ Q : Nat, P / s.size = Q := ⟨_, rfl⟩
        have hPT : (Q : Int) < C := by
          have h1 : P / s.size * s.size ≤ P := Nat.div_mul_le_self _ _
          rw [hQ] at h1
          have h2 : ((Q * s.size : Nat) : Int) < C * (s.size : Int) := by omega
          rw [Int.natCast_mul] at h2
          exact Int.lt_of_mul_lt_mul_right h2 (by omega)
        have hq11 : (P : Int).tdiv (s.size : Int) = (Q : Int) := by rw [← hQ]; exact (Int.ofNat_tdiv P s.size).symm
        have hFC := HL.out.fc
        have hF0 := HL.out.f0
        have hcnt : (s.count : Int) ≤ 1048576 := by have := (HPD.out _ hb).2.ok.c2; omega
        have GRD : Hid (∀ W, Below w.heap.size w W → Calls Tryd.prog 77 #[.pointer (some ⟨a, 0, none⟩), .int .i64 (F + (Q : Int))] W (GivesB xs E W)) := Lib.hid (fun W hB => by
          have := read_any I a mk mw s (F + (Q : Int)) W (HPD.out _ hB).2 (by omega)
          have e : s.read (F + (Q : Int)) = (xs, E) := by rw [← hQ]; exact hsec
          rwa [e] at this)
        have HS := Lib.hid hsec
        have HPk := Lib.hid hP
        have HOK := Lib.hid hok
        clear hsec hok hP
        have hsz : ¬ s.size = 0 := by omega
        go_wp2_with fail
        refine wp_region_held_drew (S := (fun W => PartAt W p a F C)) (by kernel_rfl) (HPD.out _ hb).1 (fun hS => ?_)
        refine wpAnyH_take (i := 0) (oi := ⟨some 31, _, _, _, _, _⟩) (v := .pointer (some ⟨p, 0, none⟩)) rfl (by kernel_rfl) (by kernel_rfl) (by kernel_rfl) (fun _ _ _ h => h) (Or.inl ⟨by rfl, fun W hW => by go_simp⟩) hS ?_
        try simp only [Act.put, List.setIfInBounds_toArray, List.set_cons_zero, List.set_cons_succ]
        refine wpAnyH_take (i := 4) (oi := ⟨some 35, _, _, _, _, _⟩) (v := .pointer (some ⟨p, 0, none⟩)) rfl (by kernel_rfl) (by kernel_rfl) (by kernel_rfl) (fun _ _ _ h => h) (Or.inl ⟨by rfl, fun W hW => by go_simp⟩) hS ?_
        try simp only [Act.put, List.setIfInBounds_toArray, List.set_cons_zero, List.set_cons_succ]
        refine wpAnyH_take (i := 9) (oi := ⟨some 40, _, _, _, _, _⟩) (v := .int .i64 (P : Int)) rfl (by kernel_rfl) (by kernel_rfl) (by kernel_rfl) (fun _ _ _ h => h) (Or.inl ⟨by rfl, fun W hW => by go_simp⟩) hS ?_
        try simp only [Act.put, List.setIfInBounds_toArray, List.set_cons_zero, List.set_cons_succ]
        refine wpAnyH_take (i := 10) (oi := ⟨some 41, _, _, _, _, _⟩) (v := .int .i64 (s.size : Int)) rfl (by kernel_rfl) (by kernel_rfl) (by kernel_rfl) (fun _ _ _ h => h) (Or.inl ⟨by rfl, fun W hW => by go_simp⟩) hS ?_
        try simp only [Act.put, List.setIfInBounds_toArray, List.set_cons_zero, List.set_cons_succ]
        refine wpAnyH_take (i := 1) (oi := ⟨some 32, _, _, _, _, _⟩) (v := .pointer (some ⟨p, 0, none⟩)) rfl (by kernel_rfl) (by kernel_rfl) (by kernel_rfl) (fun _ _ _ h => h) (Or.inl ⟨by rfl, fun W hW => by go_simp⟩) hS ?_
        try simp only [Act.put, List.setIfInBounds_toArray, List.set_cons_zero, List.set_cons_succ]
        refine wpAnyH_take (i := 5) (oi := ⟨some 36, _, _, _, _, _⟩) (v := .pointer (some ⟨p, 0, none⟩)) rfl (by kernel_rfl) (by kernel_rfl) (by kernel_rfl) (fun _ _ _ h => h) (Or.inl ⟨by rfl, fun W hW => by go_simp⟩) hS ?_
        try simp only [Act.put, List.setIfInBounds_toArray, List.set_cons_zero, List.set_cons_succ]
        refine wpAnyH_take (i := 11) (oi := ⟨some 42, _, _, _, _, _⟩) (v := .int .i64 (Q : Int)) rfl (by kernel_rfl) (by kernel_rfl) (by kernel_rfl) (fun _ _ _ h => h) (Or.inl ⟨by rfl, fun W hW => by go_simp; first | exact IntWalk.i64_in _ (by omega) | (rw [hq11]; exact IntWalk.i64_in _ (by omega))⟩) hS ?_
        try simp only [Act.put, List.setIfInBounds_toArray, List.set_cons_zero, List.set_cons_succ]
        refine wpAnyH_take (i := 2) (oi := ⟨some 33, _, _, _, _, _⟩) (v := .pointer (some ⟨p, 0, none⟩)) rfl (by kernel_rfl) (by kernel_rfl) (by kernel_rfl) (fun _ _ _ h => h) (Or.inl ⟨by rfl, fun W hW => by go_simp⟩) hS ?_
        try simp only [Act.put, List.setIfInBounds_toArray, List.set_cons_zero, List.set_cons_succ]
        refine wpAnyH_take (i := 6) (oi := ⟨some 37, _, _, _, _, _⟩) (v := .pointer (some ⟨p, 1, none⟩)) rfl (by kernel_rfl) (by kernel_rfl) (by kernel_rfl) (fun _ _ _ h => h) (Or.inl ⟨by rfl, fun W hW => by go_simp⟩) hS ?_
        try simp only [Act.put, List.setIfInBounds_toArray, List.set_cons_zero, List.set_cons_succ]
        refine wpAnyH_take (i := 3) (oi := ⟨some 34, _, _, _, _, _⟩) (v := .pointer (some ⟨a, 0, none⟩)) rfl (by kernel_rfl) (by kernel_rfl) (by kernel_rfl) (fun _ _ _ h => h) (Or.inl ⟨by rfl, fun W hW => by have q0 : W.cell? ⟨p, 0, none⟩ = some (.pointer (some ⟨a, 0, none⟩)) := Block.cell hW 0; have q1 : W.cell? ⟨p, 1, none⟩ = some (.int .i64 F) := Block.cell hW 1; go_simp⟩) hS ?_
        try simp only [Act.put, List.setIfInBounds_toArray, List.set_cons_zero, List.set_cons_succ]
        refine wpAnyH_take (i := 7) (oi := ⟨some 38, _, _, _, _, _⟩) (v := .pointer (some ⟨p, 1, none⟩)) rfl (by kernel_rfl) (by kernel_rfl) (by kernel_rfl) (fun _ _ _ h => h) (Or.inl ⟨by rfl, fun W hW => by go_simp⟩) hS ?_
        try simp only [Act.put, List.setIfInBounds_toArray, List.set_cons_zero, List.set_cons_succ]
        refine wpAnyH_take (i := 8) (oi := ⟨some 39, _, _, _, _, _⟩) (v := .int .i64 F) rfl (by kernel_rfl) (by kernel_rfl) (by kernel_rfl) (fun _ _ _ h => h) (Or.inl ⟨by rfl, fun W hW => by have q0 : W.cell? ⟨p, 0, none⟩ = some (.pointer (some ⟨a, 0, none⟩)) := Block.cell hW 0; have q1 : W.cell? ⟨p, 1, none⟩ = some (.int .i64 F) := Block.cell hW 1; go_simp⟩) hS ?_
        try simp only [Act.put, List.setIfInBounds_toArray, List.set_cons_zero, List.set_cons_succ]
        refine wpAnyH_take (i := 12) (oi := ⟨some 43, _, _, _, _, _⟩) (v := .int .i64 (F + (Q : Int))) rfl (by kernel_rfl) (by kernel_rfl) (by kernel_rfl) (fun _ _ _ h => h) (Or.inl ⟨by rfl, fun W hW => by go_simp; exact IntWalk.i64_in _ (by omega)⟩) hS ?_
        try simp only [Act.put, List.setIfInBounds_toArray, List.set_cons_zero, List.set_cons_succ]
        refine wpAnyH_ready (rs := [13]) (by kernel_rfl) (by simp) ?_
        refine AllReadyH.cons rfl (fun K hK => ?_) AllReadyH.nil
        go_simp
        go_at_call 77
        refine (GRD.out _ (below_draws hb 1)).mono ?_
        rintro e x1 ⟨v1, rfl, own1, hb1⟩
        have hbx := (below_draws hb 1).trans (hb1.mono hb.size)
        have own9 : Own x1 w.heap.size 5 .u8 (.slice A2 k c2) (rowP s F b k) := (Own.drewN own 1).below hb1
        have own1 := own1.mono (show w.heap.size ≤ wr.heap.size from hb.size)
        refine hK.out _ _ (HPD.out _ hbx).1 (fun hS => ?_)
        clear hK K
        try simp only [Act.put, List.setIfInBounds_toArray, List.set_cons_zero, List.set_cons_succ]
        refine wpAnyH_take (i := 14) (oi := ⟨some 30, _, _, _, _, _⟩) (v := .tuple #[v1, .int .i64 E]) rfl (by kernel_rfl) (by kernel_rfl) (by kernel_rfl) (fun _ _ _ h => h) (Or.inl ⟨by rfl, fun W hW => by go_simp⟩) hS ?_
        try simp only [Act.put, List.setIfInBounds_toArray, List.set_cons_zero, List.set_cons_succ]
        refine wpAnyH_take (i := 15) (oi := ⟨some 45, _, _, _, _, _⟩) (v := v1) rfl (by kernel_rfl) (by kernel_rfl) (by kernel_rfl) (fun _ _ _ h => h) (Or.inl ⟨by rfl, fun W hW => by go_simp⟩) hS ?_
        try simp only [Act.put, List.setIfInBounds_toArray, List.set_cons_zero, List.set_cons_succ]
        refine wpAnyH_take (i := 16) (oi := ⟨some 46, _, _, _, _, _⟩) (v := .int .i64 E) rfl (by kernel_rfl) (by kernel_rfl) (by kernel_rfl) (fun _ _ _ h => h) (Or.inl ⟨by rfl, fun W hW => by go_simp⟩) hS ?_
        try simp only [Act.put, List.setIfInBounds_toArray, List.set_cons_zero, List.set_cons_succ]
        refine wpAnyH_ready (rs := [17]) (by kernel_rfl) (by simp) ?_
        refine AllReadyH.cons rfl (fun K hK => ?_) AllReadyH.nil
        go_simp
        refine hK.out _ _ (HPD.out _ hbx).1 (fun hS => ?_)
        clear hK K
        try simp only [Act.put, List.setIfInBounds_toArray, List.set_cons_zero, List.set_cons_succ]
        refine wpAnyH_ready (rs := [18]) (by kernel_rfl) (by simp) ?_
        refine AllReadyH.cons rfl (fun K hK => ?_) AllReadyH.nil
        go_simp
        refine hK.out _ _ (HPD.out _ hbx).1 (fun hS => ?_)
        clear hK K
        try simp only [Act.put, List.setIfInBounds_toArray, List.set_cons_zero, List.set_cons_succ]
        refine wpAnyH_done (by kernel_rfl) ?_ _
        have HD1 := HPD.out _ hbx
        by_cases hE : E = 0
        · subst hE
          have hrow := hW.out
          have hxs := (hW.out (F + (Q : Int)) xs (by rw [← hQ]; exact HS.out)).1
          obtain ⟨g1, c1, hv1, hg1, hg2, hc1, hm1⟩ := own1.form (by omega)
          subst hv1
          have hh1 : Holds x1 x1.heap.size .u8 (some ⟨g1, 0, none⟩) xs := by
            obtain ⟨A9, c9, he9, -, -, hh9⟩ := own1.opened
            injection he9 with e1 e2 e3
            subst e1
            exact hh9
          rw [hxs] at hc1
          have hrem : (P : Int).tmod (s.size : Int) = ((P % s.size : Nat) : Int) := (Int.ofNat_tmod P s.size).symm
          obtain ⟨r, hr⟩ : ∃ r, P % s.size = r := ⟨_, rfl⟩
          have hrl : r < s.size := by rw [← hr]; exact Nat.mod_lt _ (by omega)
          rw [hr] at hrem
          have hc1r : ¬ c1 = r := by omega
          rw [hxs]
          obtain ⟨m, hmm⟩ : ∃ m : Nat, m = min (s.size - r) (N - k) := ⟨_, rfl⟩
          have hyl : ((xs.drop r).take m).length = m := by rw [List.length_take, List.length_drop, hxs]; omega
          have hys : (xs.drop r).take m = rowP s F (b + k) m := by
            have := piece (m := m) hxs HS.out (by rw [hr]; omega)
            rw [hr] at this
            rw [this, HPk.out]
          have HY := Lib.hid hys
          have hh2 := hh1.sub r m (by rw [hxs]; omega)
          rw [Nat.zero_add] at hh2
          have HOK2 := Lib.hid (okP_add (m := m) HOK.out (by rw [← HPk.out, hr]; omega) (by rw [← HPk.out, HS.out]))
          generalize hyy : (xs.drop r).take m = ys at *
          clear hyy hys hh1 hrow hxs
          obtain ⟨L, hL⟩ : ∃ L, s.size - r = L := ⟨_, rfl⟩
          have hr0 : (r : Int) ≤ (s.size : Int) := by omega
          have hmn : min (L : Int) ((N : Int) - (k : Int)) = (m : Int) := by omega
          have hml : (m : Int) ≤ (L : Int) := by omega
          have hmp : 0 < m := by omega
          have hmk : k + m ≤ N := by omega
          have HL2 := Lib.hid hL
          have d1 : (decide ((L : Int) ≤ (N : Int) - (k : Int)) = true ∧ L = m) ∨ (decide ((L : Int) ≤ (N : Int) - (k : Int)) = false ∧ N - k = m) := by
            by_cases h : L ≤ N - k
            · exact Or.inl ⟨decide_eq_true (by omega), by omega⟩
            · exact Or.inr ⟨decide_eq_false (by omega), by omega⟩
          have HMT : Hid ((min (L : Int) ((N : Int) - (k : Int))).toNat = m) := Lib.hid (by omega)
          have hbz := hbx.size
          have hyl2 : (rowP s F b k ++ ys).length = k + m := by rw [List.length_append, rowP_length, hyl]
          clear d1 hmn
          go_wp2_with (at_builtin; rw [HMT.out]; refine wpList_append_ints (ys := ys) _ rfl (.tmp 64) (.tmp 65) 22 rfl elem8 own9 rfl (by rw [hyl]; rfl) hh2 (by rw [rowP_length, hyl]; omega) hbz ?_; intro v7 w7 own7 g7 hb7 _)
          have own7 : Own w7 w.heap.size 5 .u8 v7 (rowP s F b (k + m)) := by rw [rowP_add, ← HY.out]; exact own7
          have HO7 := Lib.hid own7
          have hb8 := Lib.hid (hbx.trans hb7)
          clear own7 own9 own1 g7 hb7 HD1 hbx hh2 hb1 own
          have hmN : min L (N - k) = m := by omega
          have hPb : P + m ≤ 8589934592 := by have := HPk.out; omega
          have hw64 := Lib.hid (IntWalk.wrap64_in ((P : Int) + ((min L (N - k) : Nat) : Int)) (by rw [hmN]; omega))
          go_wp2_with fail
          go_roundw
          case rel => exact ⟨P + m, k + m, by rw [HPk.out]; omega, hmk, by (congr 1; exact hw64.out.trans (by rw [hmN, Int.natCast_add])), HO7.out, HOK2.out, hb8.out⟩
          case measure =>
            have := HPk.out
            rw [hw64.out, hmN]
            simp only [intOf]
            omega
        · have d1 : (E != 0) = true := by simpa using hE
          go_wp2_with fail
          go_ret2
          exact ⟨([], E), Or.inl ⟨k, hlt, HOK.out, by rw [← HPk.out, HS.out]; exact hE, by rw [← HPk.out, HS.out]⟩, _, rfl, Own.nil x1 w.heap.size 5 .u8, hbx⟩
      · obtain rfl : k = N := by omega
        have d0 : decide ((k : Int) < (k : Int)) = false := decide_eq_false (by omega)
        clear hlt
        go_wp2_with fail
        go_ret2
        exact ⟨(rowP s F b k, 0), Or.inr ⟨hok, rfl⟩, _, rfl, own, hb⟩
  · rw [decide_eq_false hin] at GH
    simp only [if_neg hin]
    clear hp h hl hx hin
    go_enter Tryd.func49, Tryd.ntmps49
    go_wp2_with (go_at_call 76; (with_reducible refine GH.out.mono ?_); rintro e w1 ⟨rfl, k1, hk1⟩
                 have B1 : Below w.heap.size w w1 := by rw [hk1]; exact below_draws (Below.refl _ _) k1
                 clear hk1 GH)
    go_ret2
    exact ⟨_, rfl, _, rfl, Own.nil w1 w.heap.size 5 .u8, B1⟩
end Go.Proofs.YtpnodocjpedcmaaDoor.Pt

namespace Go.Proofs.YtpnodocjpedcmaaDoor.Pt
open Go.ChangeShapes Go.WideShapes Go.ChangeAt Go.RowKit Go.Proofs.YtpnodocjpedcmaaDoor.Kit Go.Proofs.YtpnodocjpedcmaaDoor.Sec

/-- copy(v, ys), ys of any length. -/
theorem wpList_copy_some {P : Program} {w : World} {ops : Array Oper} {rest : List Oper} {o : Oper} {a : Act} {Q : Exit → Act → World → Prop} (hgd : o.guard = none) (d s : Operand) (t : TypeId)
    (ho : o.op = .call { callee := .builtin .copy, args := #[d, s], argTypes := #[t, t] }) {e : TypeId} {k : IntKind} {bytes : Nat} (he : IntElem P t e k bytes)
    {B B' : Nat} {v : Value} {xs ys : List Int} (hown : Own w B e k v xs) (hd : a.eval d = v) {A : Option Addr} {c : Nat} (hs : a.eval s = .slice A ys.length c) (hr : Holds w B' k A ys)
    (hx : 0 < xs.length) (hy : 0 < ys.length) (hbase : B ≤ w.heap.size)
    (h : ∀ w', Own w' B e k v (ys.take xs.length ++ xs.drop ys.length) → w.grownBy w' v.ownBlock → Below B w w' → wpList P ops Q rest (a.put o.dst (goInt (ys.take xs.length).length)) w') :
    wpList P ops Q (o :: rest) a w := by
  obtain ⟨ht, hinfo, hb8⟩ := he
  obtain ⟨i, hi, hz, hsi, hby⟩ := info_parts hinfo
  have hsz : (P.info? e).map (·.size) = some 1 := by rw [hi]; simp [hsi]
  obtain ⟨b, off, rfl, hb, hc⟩ := hr hy
  rcases hown.2 with ⟨rfl, h1⟩ | ⟨g, cap, cur, rfl, hbg, hg, hnc, hcm, hcs, htake⟩
  · omega
  · have hzl : (ys.take xs.length).length ≤ xs.length := by rw [List.length_take]; omega
    have hz0 : 0 < (ys.take xs.length).length := by rw [List.length_take]; omega
    have hdr : xs.drop ys.length = xs.drop (ys.take xs.length).length := by
      rw [List.length_take]
      by_cases hh : xs.length ≤ ys.length
      · rw [List.drop_of_length_le hh, List.drop_of_length_le (by omega)]
      · rw [Nat.min_eq_right (by omega)]
    rw [hdr] at h
    have hgz : ∀ j, j < (ys.take xs.length).length → (ys.take xs.length).getD j 0 = ys.getD j 0 := fun j hj => by
      rw [List.length_take] at hj
      rw [List.getD, List.getD, List.getElem?_take, if_pos (by omega)]
    have hmin : (ys.take xs.length).length = Nat.min ys.length xs.length := by rw [List.length_take]; exact Nat.min_comm _ _
    have hzy : (ys.take xs.length).length ≤ ys.length := by rw [List.length_take]; omega
    generalize ys.take xs.length = zs at *
    refine wpList_copy_own hgd d s t t ho e ht hsz g 0 xs.length cap ⟨b, off, none⟩ ys.length c hd hs cur e hg (zs.map (Value.int k)) (by rw [List.length_map]; exact hmin) ?_ (by simp; omega) (ints_one k zs) ?_
    · intro j u hu
      obtain ⟨hj, rfl⟩ := get_ints hu
      rw [add_plain, hgz j hj]
      exact hc j (by omega)
    · have hlen : (zs ++ xs.drop zs.length).length = xs.length := by simp; omega
      have hgrown : w.grownBy (w.setRow g (cur.toList.take 0 ++ (zs.map (Value.int k) ++ cur.toList.drop (0 + (zs.map (Value.int k)).length))).toArray) (some g) :=
        ⟨rfl, rfl, rfl, by simp [World.setRow], fun j _ hj => setRow_other w g j _ (fun e => hj (by rw [e]))⟩
      rw [show goInt (zs.map (Value.int k)).length = goInt zs.length by simp]
      refine h _ ?_ hgrown (below_of_grown hgrown hbase fun g' hg' => by simp at hg'; omega)
      refine ⟨by simp, .inr ⟨g, cap, _, by rw [hlen], hbg, setRow_heap w g _ _ e _ hg, by omega, hcm, ?_, ?_⟩⟩
      · simp; omega
      · rw [hlen]
        simp only [Nat.mul_one] at htake ⊢
        simp only [List.take_zero, List.nil_append, Nat.zero_add, List.length_map, List.map_append, List.map_drop]
        rw [List.take_append, List.length_map, List.take_of_length_le (by simp; omega), ← htake, List.drop_take]

def PWrite (s : Dv) (F : Int) (T : Nat) (x : Int) (bs : List Int) (r : Int × Dv) : Prop :=
  if x.tmod s.size ≠ 0 then r = (1, s) else if 0 ≤ x ∧ x ≤ T ∧ 0 ≤ (bs.length : Int) ∧ (bs.length : Int) ≤ T - x then WritesP s (F + (x.toNat / s.size : Nat)) bs r else r = (5, s)
/-- Behind k writes. -/
structure WGoing (I : Nat → Prop) (w0 w : World) (a mk mw : Nat) (s : Dv) (i : Int) (bs : List Int) (k : Nat) (A : Option Addr) : Prop where
  d : DvAt w I a mk mw (wrS s i bs k)
  t : TurnsIn (DSet a mk mw) w0 w
  ok : OkW s i bs k
  r : Holds w w0.heap.size .u8 A (bs.drop (k * s.size))

set_option maxRecDepth 100000 in
set_option maxHeartbeats 6400000 in
theorem pwrite_any (I : Nat → Prop) (p a mk mw : Nat) (F C : Int) (T : Nat) (s : Dv) (x : Int) (A : Option Addr) (bs : List Int) (c : Nat) (w : World) (hp : PartAt w p a F C) (h : DvAt w I a mk mw s) (hI : ∀ g, w.heap.size ≤ g → I g) (hl : Lies s F C T) (hx : -9223372036854775808 ≤ x ∧ x ≤ 9223372036854775807)
    (hbl : bs.length ≤ 1000000) (hbc : bs.length ≤ c) (hcm : c ≤ maxLen) (hbo : Octets bs) (hr : Holds w w.heap.size .u8 A bs) (hof : s.offs ≤ 100000000) (hwr : s.wr ≤ 100000000) :
    Calls Tryd.prog 54 #[.pointer (some ⟨p, 0, none⟩), .int .i64 x, .slice A bs.length c] w fun e w' => ∃ r, PWrite s F T x bs r ∧ e = .returned (.int .i64 r.1) ∧ DvAt w' I a mk mw r.2 ∧ TurnsIn (DSet a mk mw) w w' := by
  have GS := Lib.hid (size_any I a mk mw s w h)
  have x0 : w.cell? ⟨p, 0, none⟩ = some (.pointer (some ⟨a, 0, none⟩)) := hp.cell 0
  have hs1 := h.ok.s1
  have hs2 := h.ok.s2
  unfold PWrite
  by_cases hm : x.tmod s.size = 0
  · simp only [if_neg (not_not_intro hm)]
    have b0 : (x.tmod (s.size : Int) != 0) = false := by rw [hm]; rfl
    have hsz : ¬ s.size = 0 := by omega
    have GH := Lib.hid (has_any I p a mk mw F C T s x bs.length w hp h hl hx)
    by_cases hin : 0 ≤ x ∧ x ≤ (T : Int) ∧ 0 ≤ (bs.length : Int) ∧ (bs.length : Int) ≤ (T : Int) - x
    · rw [decide_eq_true hin] at GH
      obtain ⟨b, rfl⟩ : ∃ b : Nat, x = (b : Int) := ⟨x.toNat, by omega⟩
      simp only [if_pos hin, Int.toNat_natCast]
      have hT := hl.most h.ok
      have HL := Lib.hid hl
      have HD1 := Lib.hid (fun W (t : TurnsIn (DSet a mk mw) w W) => (Block.out hp t (h.not_cells hp (by decide)) : PartAt W p a F C))
      have HDB := Lib.hid h
      have HR := Lib.hid (fun W (t : TurnsIn (DSet a mk mw) w W) => h.holds t hr (Nat.le_refl _))
      have HI := Lib.hid hI
      have HOK := Lib.hid h.ok
      have hcnt : (s.count : Int) ≤ 1048576 := by have := h.ok.c2; omega
      have HFC := hl.fc
      have HF0 := hl.f0
      have hCS := hl.t
      have HNear := Lib.hid (fun k => wrS_near s (F + ((b / s.size : Nat) : Int)) bs k)
      obtain ⟨z, hz⟩ : ∃ z, s.size = z := ⟨_, rfl⟩
      have HZ := Lib.hid hz
      rw [hz] at hm b0 hsz hs1 hs2 GS hCS HNear ⊢
      obtain ⟨i0, hi0⟩ : ∃ i0, F + ((b / z : Nat) : Int) = i0 := ⟨_, rfl⟩
      rw [hi0] at HNear ⊢
      have HI0 := Lib.hid hi0
      clear hp h hr hI hl hx hz hi0
      go_enter Tryd.func54, Tryd.ntmps54
      go_wp2_with (first
        | (have _t := x0; go_at_call 57; (with_reducible refine GS.out.mono ?_); rintro e w1 ⟨rfl, rfl⟩; clear x0)
        | (go_at_call 76; (with_reducible refine GH.out.mono ?_); rintro e w1 ⟨rfl, k1, hk1⟩
           have T1 : TurnsIn (DSet a mk mw) w w1 := by rw [hk1]; exact (TurnsIn.refl _ w).drewN k1
           have D1 : DvAt w1 I a mk mw s := by rw [hk1]; exact HDB.out.below (below_draws (Below.refl _ _) k1)
           have x1 : w1.cell? ⟨p, 0, none⟩ = some (.pointer (some ⟨a, 0, none⟩)) := (HD1.out _ T1).cell 0
           clear hk1 GH))
      refine (size_any I a mk mw s _ D1).mono ?_
      rintro e w2 ⟨rfl, rfl⟩
      rw [HZ.out]
      go_wp2_with fail
      have HT1 := Lib.hid T1
      have HDD := Lib.hid D1
      clear T1 D1 x1
      go_loopw [1, 2] (fun q v wr => ∃ (P k : Nat) (A' : Option Addr) (c' : Nat), P = b + k * z ∧ k ≤ manyP z bs ∧ q = .int .i64 (P : Int) ∧ v = .slice A' (bs.drop (k * z)).length c' ∧ (bs.drop (k * z)).length ≤ c' ∧ c' ≤ maxLen ∧ WGoing I w wr a mk mw s i0 bs k A') (fun q _ _ => b + bs.length + z - (intOf q).toNat)
      case atStart => exact ⟨b, 0, A, c, by omega, Nat.zero_le _, rfl, by simp, by simpa using hbc, hcm, ⟨HDD.out, HT1.out, fun j hj => absurd hj (by omega), by rw [Nat.zero_mul]; exact HR.out _ HT1.out⟩⟩
      case round =>
        clear HDD HT1
        obtain ⟨P, k, A', c', hP, hk, rfl, rfl, hc1, hc2, G⟩ := hrel
        have hmany := manyP_iff (show 0 < z by omega) bs k
        have hdl : (bs.drop (k * z)).length = bs.length - k * z := List.length_drop
        have HPk := Lib.hid hP
        have HMy := Lib.hid hmany
        obtain ⟨R, hR⟩ : ∃ R, bs.drop (k * z) = R := ⟨_, rfl⟩
        rw [hR] at hc1 hdl ⊢
        have hHR : Holds wr w.heap.size .u8 A' R := by have := G.r; rwa [HZ.out, hR] at this
        by_cases hlt : 0 < R.length
        · have d0 : decide ((0 : Int) < (R.length : Int)) = true := decide_eq_true (by omega)
          have hkm : k < manyP z bs := hmany.2 (by omega)
          obtain ⟨Q, hQ⟩ : ∃ Q : Nat, P / z = Q := ⟨_, rfl⟩
          have hQk : Q = b / z + k := by rw [← hQ, hP, Nat.add_mul_div_right _ _ (by omega)]
          have hq11 : (P : Int).tdiv (z : Int) = (Q : Int) := by rw [← hQ]; exact (Int.ofNat_tdiv P z).symm
          have hPT : (Q : Int) < C := by
            have h1 : P / z * z ≤ P := Nat.div_mul_le_self _ _
            rw [hQ] at h1
            have h2 : ((Q * z : Nat) : Int) < C * (z : Int) := by omega
            rw [Int.natCast_mul] at h2
            exact Int.lt_of_mul_lt_mul_right h2 (by omega)
          obtain ⟨n, hn⟩ : ∃ n, (R.take z).length = n := ⟨_, rfl⟩
          have hn1 : n = min z R.length := by rw [← hn, List.length_take]
          have hch : R.take z ++ (List.replicate z (0 : Int)).drop R.length = chunkP z bs k := by
            unfold chunkP padB
            rw [hR, List.drop_replicate, hn]
            congr 2
            omega
          have HCH := Lib.hid hch
          have HN := Lib.hid hn
          obtain ⟨n1, n2, n3, n4⟩ := HNear.out k
          have hk6 : k ≤ 1000000 := by
            have : k * 1 ≤ k * z := Nat.mul_le_mul_left k (by omega)
            omega
          have GWR := Lib.hid (fun W gb (hd : DvAt W I a mk mw (wrS s i0 bs k)) (hsz : w.heap.size ≤ W.heap.size) (hh : Holds W W.heap.size .u8 (some ⟨gb, 0, none⟩) (chunkP z bs k)) => (by
            have := write_any I a mk mw (wrS s i0 bs k) (F + (Q : Int)) (some ⟨gb, 0, none⟩) (chunkP z bs k) z W hd (fun g hg => HI.out g (by omega)) (by omega) (by rw [chunkP_length]; omega) (chunkP_octets hbo k) hh (by omega) (by omega)
            have e1 : F + (Q : Int) = i0 + (k : Int) := by have := HI0.out; omega
            have e2 : (wrS s i0 bs k).write (F + (Q : Int)) (chunkP z bs k) = (errS s i0 bs k, wrS s i0 bs (k + 1)) := by
              rw [e1]
              have h := HZ.out
              subst h
              rfl
            rw [chunkP_length, e2] at this
            exact this : Calls Tryd.prog 12 #[.pointer (some ⟨a, 0, none⟩), .int .i64 (F + (Q : Int)), .slice (some ⟨gb, 0, none⟩) z z] W (Sec.Leaves I a mk mw W (wrS s i0 bs (k + 1)) (.int .i64 (errS s i0 bs k)))))
          obtain ⟨E, hEe⟩ : ∃ E, errS s i0 bs k = E := ⟨_, rfl⟩
          rw [hEe] at GWR
          have HEe := Lib.hid hEe
          clear hEe
          have HQk := Lib.hid hQk
          have HN1 := Lib.hid hn1
          clear hQk hn1
          have HG := Lib.hid G
          have hHR2 := hHR
          obtain ⟨gA, oA, rfl, hgA, -⟩ := hHR2 hlt
          have HDL := Lib.hid hdl
          have HRR := Lib.hid hR
          clear hP hmany hR G hdl
          go_wp2_with (first
            | (at_make; refine wpList_make_ints _ rfl _ _ _ rfl elem8 z z rfl rfl rfl rfl (Nat.le_refl _) (by omega) ?_; intro w3 own3 hb3 hz3
               have own3 : Own w3 w.heap.size 5 .u8 (.slice (some ⟨wr.heap.size, 0, none⟩) z z) (List.replicate z 0) := own3.mono HG.out.t.size
               have hwz := HG.out.t.size)
            | (have _t := own3; (refine wpList_copy_some rfl (.tmp 42) (.tmp 43) 22 rfl elem8 own3 rfl rfl (hHR.below (hb3.mono hwz)) (by rw [List.length_replicate]; omega) hlt (by omega) ?_); clear _t; intro w4 own4 g4 hb4
               rw [List.length_replicate, HCH.out] at own4
               rw [List.length_replicate, HN.out]))
          have Bw : Below wr.heap.size wr w4 := hb3.trans (below_of_grown g4 (Nat.le_of_lt hz3) (fun g hg => by simp [Value.ownBlock] at hg; omega))
          have HT4 : Hid (TurnsIn (DSet a mk mw) w w4) := Lib.hid (HG.out.t.trans (.ofNew Bw))
          have HP4 := Lib.hid (HD1.out _ HT4.out)
          have HD4 := Lib.hid ((HG.out.d.below Bw).below (below_draws (Below.refl _ _) 1))
          have hsz4 : w.heap.size ≤ w4.drew.heap.size := HT4.out.size
          have hh4 : Hid (Holds w4.drew w4.drew.heap.size .u8 (some ⟨wr.heap.size, 0, none⟩) (chunkP z bs k)) := Lib.hid (by
            obtain ⟨A9, c9, he9, -, -, hh9⟩ := own4.opened
            injection he9 with e1 e2 e3
            subst e1
            exact hh9)
          have HHR := Lib.hid hHR
          clear own4 own3 g4 hb4 hb3 hz3 hHR
          have hRn : n ≤ R.length ∧ 0 < n ∧ n ≤ z := by have := HN1.out; omega
          clear hlt
          refine wp_region_held_drew (S := (fun W => PartAt W p a F C)) (by kernel_rfl) HP4.out (fun hS => ?_)
          refine wpAnyH_take (i := 0) (oi := ⟨some 45, _, _, _, _, _⟩) (v := .pointer (some ⟨p, 0, none⟩)) rfl (by kernel_rfl) (by kernel_rfl) (by kernel_rfl) (fun _ _ _ h => h) (Or.inl ⟨by rfl, fun W hW => by go_simp⟩) hS ?_
          try simp only [Act.put, List.setIfInBounds_toArray, List.set_cons_zero, List.set_cons_succ]
          refine wpAnyH_take (i := 4) (oi := ⟨some 49, _, _, _, _, _⟩) (v := .pointer (some ⟨p, 0, none⟩)) rfl (by kernel_rfl) (by kernel_rfl) (by kernel_rfl) (fun _ _ _ h => h) (Or.inl ⟨by rfl, fun W hW => by go_simp⟩) hS ?_
          try simp only [Act.put, List.setIfInBounds_toArray, List.set_cons_zero, List.set_cons_succ]
          refine wpAnyH_take (i := 9) (oi := ⟨some 54, _, _, _, _, _⟩) (v := .int .i64 (P : Int)) rfl (by kernel_rfl) (by kernel_rfl) (by kernel_rfl) (fun _ _ _ h => h) (Or.inl ⟨by rfl, fun W hW => by go_simp⟩) hS ?_
          try simp only [Act.put, List.setIfInBounds_toArray, List.set_cons_zero, List.set_cons_succ]
          refine wpAnyH_take (i := 10) (oi := ⟨some 55, _, _, _, _, _⟩) (v := .int .i64 (z : Int)) rfl (by kernel_rfl) (by kernel_rfl) (by kernel_rfl) (fun _ _ _ h => h) (Or.inl ⟨by rfl, fun W hW => by go_simp⟩) hS ?_
          try simp only [Act.put, List.setIfInBounds_toArray, List.set_cons_zero, List.set_cons_succ]
          refine wpAnyH_take (i := 13) (oi := ⟨some 58, _, _, _, _, _⟩) (v := .slice (some ⟨wr.heap.size, 0, none⟩) z z) rfl (by kernel_rfl) (by kernel_rfl) (by kernel_rfl) (fun _ _ _ h => h) (Or.inl ⟨by rfl, fun W hW => by go_simp⟩) hS ?_
          try simp only [Act.put, List.setIfInBounds_toArray, List.set_cons_zero, List.set_cons_succ]
          refine wpAnyH_take (i := 1) (oi := ⟨some 46, _, _, _, _, _⟩) (v := .pointer (some ⟨p, 0, none⟩)) rfl (by kernel_rfl) (by kernel_rfl) (by kernel_rfl) (fun _ _ _ h => h) (Or.inl ⟨by rfl, fun W hW => by go_simp⟩) hS ?_
          try simp only [Act.put, List.setIfInBounds_toArray, List.set_cons_zero, List.set_cons_succ]
          refine wpAnyH_take (i := 5) (oi := ⟨some 50, _, _, _, _, _⟩) (v := .pointer (some ⟨p, 0, none⟩)) rfl (by kernel_rfl) (by kernel_rfl) (by kernel_rfl) (fun _ _ _ h => h) (Or.inl ⟨by rfl, fun W hW => by go_simp⟩) hS ?_
          try simp only [Act.put, List.setIfInBounds_toArray, List.set_cons_zero, List.set_cons_succ]
          refine wpAnyH_take (i := 11) (oi := ⟨some 56, _, _, _, _, _⟩) (v := .int .i64 (Q : Int)) rfl (by kernel_rfl) (by kernel_rfl) (by kernel_rfl) (fun _ _ _ h => h) (Or.inl ⟨by rfl, fun W hW => by go_simp; first | exact IntWalk.i64_in _ (by omega) | (rw [hq11]; exact IntWalk.i64_in _ (by omega))⟩) hS ?_
          try simp only [Act.put, List.setIfInBounds_toArray, List.set_cons_zero, List.set_cons_succ]
          refine wpAnyH_take (i := 2) (oi := ⟨some 47, _, _, _, _, _⟩) (v := .pointer (some ⟨p, 0, none⟩)) rfl (by kernel_rfl) (by kernel_rfl) (by kernel_rfl) (fun _ _ _ h => h) (Or.inl ⟨by rfl, fun W hW => by go_simp⟩) hS ?_
          try simp only [Act.put, List.setIfInBounds_toArray, List.set_cons_zero, List.set_cons_succ]
          refine wpAnyH_take (i := 6) (oi := ⟨some 51, _, _, _, _, _⟩) (v := .pointer (some ⟨p, 1, none⟩)) rfl (by kernel_rfl) (by kernel_rfl) (by kernel_rfl) (fun _ _ _ h => h) (Or.inl ⟨by rfl, fun W hW => by go_simp⟩) hS ?_
          try simp only [Act.put, List.setIfInBounds_toArray, List.set_cons_zero, List.set_cons_succ]
          refine wpAnyH_take (i := 3) (oi := ⟨some 48, _, _, _, _, _⟩) (v := .pointer (some ⟨a, 0, none⟩)) rfl (by kernel_rfl) (by kernel_rfl) (by kernel_rfl) (fun _ _ _ h => h) (Or.inl ⟨by rfl, fun W hW => by have q0 : W.cell? ⟨p, 0, none⟩ = some (.pointer (some ⟨a, 0, none⟩)) := Block.cell hW 0; have q1 : W.cell? ⟨p, 1, none⟩ = some (.int .i64 F) := Block.cell hW 1; go_simp⟩) hS ?_
          try simp only [Act.put, List.setIfInBounds_toArray, List.set_cons_zero, List.set_cons_succ]
          refine wpAnyH_take (i := 7) (oi := ⟨some 52, _, _, _, _, _⟩) (v := .pointer (some ⟨p, 1, none⟩)) rfl (by kernel_rfl) (by kernel_rfl) (by kernel_rfl) (fun _ _ _ h => h) (Or.inl ⟨by rfl, fun W hW => by go_simp⟩) hS ?_
          try simp only [Act.put, List.setIfInBounds_toArray, List.set_cons_zero, List.set_cons_succ]
          refine wpAnyH_take (i := 8) (oi := ⟨some 53, _, _, _, _, _⟩) (v := .int .i64 F) rfl (by kernel_rfl) (by kernel_rfl) (by kernel_rfl) (fun _ _ _ h => h) (Or.inl ⟨by rfl, fun W hW => by have q0 : W.cell? ⟨p, 0, none⟩ = some (.pointer (some ⟨a, 0, none⟩)) := Block.cell hW 0; have q1 : W.cell? ⟨p, 1, none⟩ = some (.int .i64 F) := Block.cell hW 1; go_simp⟩) hS ?_
          try simp only [Act.put, List.setIfInBounds_toArray, List.set_cons_zero, List.set_cons_succ]
          refine wpAnyH_take (i := 12) (oi := ⟨some 57, _, _, _, _, _⟩) (v := .int .i64 (F + (Q : Int))) rfl (by kernel_rfl) (by kernel_rfl) (by kernel_rfl) (fun _ _ _ h => h) (Or.inl ⟨by rfl, fun W hW => by go_simp; exact IntWalk.i64_in _ (by omega)⟩) hS ?_
          try simp only [Act.put, List.setIfInBounds_toArray, List.set_cons_zero, List.set_cons_succ]
          refine wpAnyH_ready (rs := [14]) (by kernel_rfl) (by simp) ?_
          refine AllReadyH.cons rfl (fun K hK => ?_) AllReadyH.nil
          go_simp
          go_at_call 12
          refine (GWR.out w4.drew wr.heap.size HD4.out hsz4 hh4.out).mono ?_
          rintro e x1 ⟨rfl, D5, T5⟩
          have HT5 := (HT4.out.drewN 1).trans T5
          have HP5 := HD1.out _ HT5
          refine hK.out _ _ HP5 (fun hS => ?_)
          clear hK K
          try simp only [Act.put, List.setIfInBounds_toArray, List.set_cons_zero, List.set_cons_succ]
          refine wpAnyH_ready (rs := [15]) (by kernel_rfl) (by simp) ?_
          refine AllReadyH.cons rfl (fun K hK => ?_) AllReadyH.nil
          go_simp
          refine hK.out _ _ HP5 (fun hS => ?_)
          clear hK K
          try simp only [Act.put, List.setIfInBounds_toArray, List.set_cons_zero, List.set_cons_succ]
          refine wpAnyH_done (by kernel_rfl) ?_ _
          have HHR5 : Holds x1 w.heap.size .u8 (some ⟨gA, oA, none⟩) R := HG.out.d.holds ((TurnsIn.ofNew Bw).drewN 1 |>.trans T5) HHR.out HG.out.t.size
          have HD5 := Lib.hid D5
          clear D5 T5 HP5
          have hHT5 := Lib.hid HT5
          clear HT5 HP4 HD4 hh4 hsz4 HHR GWR
          by_cases hE : E = 0
          · subst hE
            have HOK6 : Hid (OkW s i0 bs (k + 1)) := Lib.hid (fun j hj => by
              rcases Nat.lt_or_ge j k with h | h
              · exact HG.out.ok j h
              · obtain rfl : j = k := by omega
                exact HEe.out)
            have HK1 : Hid (k + 1 ≤ manyP z bs) := Lib.hid hkm
            have hnext : Hid ((bs.drop ((k + 1) * z)).length = R.length - n ∧ (n < R.length → bs.drop ((k + 1) * z) = R.drop n)) := Lib.hid (by
              have h1 := HN1.out
              have h2 := HDL.out
              have h3 : (k + 1) * z = k * z + z := by rw [Nat.add_mul, Nat.one_mul]
              refine ⟨by rw [List.length_drop, h3]; omega, fun h => ?_⟩
              have h4 : n = z := by omega
              rw [h3, ← List.drop_drop, HRR.out, h4])
            have hnc : (n : Int) ≤ (R.length : Int) := by omega
            have hR5 : Hid (∀ A'', (n < R.length → A'' = some ⟨gA, oA + n, none⟩) → Holds x1 w.heap.size .u8 A'' (bs.drop ((k + 1) * s.size))) := Lib.hid (fun A'' hA => by
              rw [HZ.out]
              intro hp0
              rw [hnext.out.1] at hp0
              rw [hnext.out.2 (by omega), hA (by omega)]
              have := HHR5.sub n (R.length - n) (by omega)
              rw [List.take_of_length_le (by rw [List.length_drop]; omega)] at this
              exact this (by rw [List.length_drop]; omega))
            clear HHR5
            have hw64 := Lib.hid (IntWalk.wrap64_in ((P : Int) + (z : Int)) (by have := HPk.out; have := HDL.out; omega))
            have HP6 : Hid (P + z = b + (k + 1) * z) := Lib.hid (by have := HPk.out; rw [Nat.add_mul, Nat.one_mul]; omega)
            have HPL : Hid (P < b + bs.length) := Lib.hid (by have := HPk.out; have := HDL.out; omega)
            have HC : Hid (R.length ≤ c' ∧ c' ≤ maxLen) := Lib.hid ⟨hc1, hc2⟩
            by_cases hcn : c' = n
            · have hRn2 : R.length = n := by omega
              go_wp2_with fail
              go_roundw
              case rel => exact ⟨P + z, k + 1, some ⟨gA, oA, none⟩, 0, HP6.out, HK1.out, by first | (rw [hw64.out, Int.natCast_add]; done) | (rw [hw64.out]; rfl), (by rw [hnext.out.1, hRn2, Nat.sub_self]), by rw [hnext.out.1, hRn2, Nat.sub_self]; exact Nat.le_refl _, Nat.zero_le _, HD5.out, hHT5.out, HOK6.out, hR5.out _ (fun h => absurd h (by omega))⟩
              case measure =>
                have h9 := HPL.out
                rw [hw64.out]
                simp only [intOf]
                omega
            · go_wp2_with fail
              go_roundw
              case rel => exact ⟨P + z, k + 1, some ⟨gA, oA + n, none⟩, c' - n, HP6.out, HK1.out, by first | (rw [hw64.out, Int.natCast_add]; done) | (rw [hw64.out]; rfl), by rw [hnext.out.1], by rw [hnext.out.1]; have := HC.out.1; omega, Nat.le_trans (Nat.sub_le _ _) HC.out.2, HD5.out, hHT5.out, HOK6.out, hR5.out _ (fun _ => rfl)⟩
              case measure =>
                have h9 := HPL.out
                rw [hw64.out]
                simp only [intOf]
                omega
          · have d1 : (E != 0) = true := by simpa using hE
            go_wp2_with fail
            go_ret
            exact ⟨(E, wrS s i0 bs (k + 1)), Or.inl ⟨k, by rw [HZ.out]; exact hkm, HG.out.ok, by rw [HEe.out]; exact hE, by rw [HEe.out]⟩, rfl, HD5.out, hHT5.out⟩
        · have hR0 : R.length = 0 := by omega
          have hkm : k = manyP z bs := by
            rcases Nat.lt_or_ge k (manyP z bs) with h | h
            · have := hmany.1 h
              omega
            · omega
          clear hHR hlt hdl hP hmany hR
          go_wp2_with fail
          go_ret
          refine ⟨(0, wrS s i0 bs k), Or.inr ⟨?_, ?_⟩, rfl, G.d, G.t⟩
          · rw [HZ.out, ← hkm]; exact G.ok
          · rw [HZ.out, ← hkm]
    · rw [decide_eq_false hin] at GH
      simp only [if_neg hin]
      have HD := Lib.hid h
      clear h hr hp hI hl
      go_enter Tryd.func54, Tryd.ntmps54
      go_wp2_with (first
        | (go_at_call 57; (with_reducible refine GS.out.mono ?_); rintro e w1 ⟨rfl, rfl⟩)
        | (go_at_call 76; (with_reducible refine GH.out.mono ?_); rintro e w1 ⟨rfl, k1, hk1⟩
           have B1 : Below w.heap.size w w1 := by rw [hk1]; exact below_draws (Below.refl _ _) k1
           clear hk1 GH))
      go_ret
      exact ⟨_, rfl, rfl, HD.out.below B1, .ofNew B1⟩
  · simp only [if_pos hm]
    have b0 : (x.tmod (s.size : Int) != 0) = true := by simpa using hm
    have hsz : ¬ s.size = 0 := by omega
    have HD := Lib.hid h
    clear h hr hp hI hl
    go_enter Tryd.func54, Tryd.ntmps54
    go_wp2_with (go_at_call 57; (with_reducible refine GS.out.mono ?_); rintro e w1 ⟨rfl, rfl⟩)
    go_ret
    exact ⟨_, rfl, rfl, HD.out, TurnsIn.refl _ _⟩
end Go.Proofs.YtpnodocjpedcmaaDoor.Pt

namespace Go.Proofs.YtpnodocjpedcmaaDoor.Pt
open Go.ChangeShapes Go.WideShapes Go.ChangeAt Go.RowKit Go.Proofs.YtpnodocjpedcmaaDoor.Kit

theorem str_cut (xs : List Int) (lo hi : Nat) : (strOfNums xs).extract lo hi = strOfNums ((xs.drop lo).take (hi - lo)) := by
  apply ByteArray.ext
  rw [ByteArray.data_extract]
  apply Array.toList_inj.1
  unfold strOfNums
  simp [List.map_take, List.map_drop]
theorem str_join (xs ys : List Int) : strOfNums xs ++ strOfNums ys = strOfNums (xs ++ ys) := by
  apply ByteArray.ext
  rw [ByteArray.data_append]
  unfold strOfNums
  simp
end Go.Proofs.YtpnodocjpedcmaaDoor.Pt

namespace Go.Proofs.YtpnodocjpedcmaaDoor.Pt
open Go.ChangeShapes Go.WideShapes Go.ChangeAt Go.RowKit Go.Proofs.YtpnodocjpedcmaaDoor.Kit Go.Proofs.YtpnodocjpedcmaaDoor.Sec

/-- A sector's part of a text. -/
theorem chunk_cut (bs : List Int) (z k : Nat) : (strOfNums bs).extract (k * z) (min bs.length ((k + 1) * z)) = strOfNums ((bs.drop (k * z)).take z) := by
  rw [str_cut]
  congr 1
  have h : (k + 1) * z = k * z + z := by rw [Nat.add_mul, Nat.one_mul]
  rw [h]
  by_cases hl : bs.length ≤ k * z + z
  · rw [Nat.min_eq_left hl, List.take_of_length_le (by rw [List.length_drop]; exact Nat.le_refl _), List.take_of_length_le (by rw [List.length_drop]; omega)]
  · rw [Nat.min_eq_right (by omega), Nat.add_sub_cancel_left]
/-- It is filled up with zeros. -/
theorem chunk_fill (bs : List Int) (z k : Nat) : strOfNums ((bs.drop (k * z)).take z) ++ strOfNums (List.replicate (z - ((bs.drop (k * z)).take z).length) 0) = strOfNums (chunkP z bs k) := by
  rw [str_join]
  rfl
/-- A range's piece of a sector: from lo to hi of the region, the sector beginning at i * z. -/
theorem piece_cut {s : Dv} {F : Int} {p m : Nat} {xs : List Int} (hx : xs.length = s.size) (h : secP s F p = (xs, 0)) (hm : m ≤ s.size - p % s.size) : (strOfNums xs).extract (p % s.size) (p % s.size + m) = strOfNums (rowP s F p m) := by
  rw [str_cut, Nat.add_sub_cancel_left, piece hx h hm]
theorem row_join (s : Dv) (F : Int) (a k m : Nat) : strOfNums (rowP s F a k) ++ strOfNums (rowP s F (a + k) m) = strOfNums (rowP s F a (k + m)) := by
  rw [str_join, rowP_add]
end Go.Proofs.YtpnodocjpedcmaaDoor.Pt

namespace Go.Proofs.YtpnodocjpedcmaaDoor.Sec
open Go.ChangeShapes Go.WideShapes Go.ChangeAt Go.RowKit Go.Proofs.YtpnodocjpedcmaaDoor.Kit

def strB : Option (List Int) → ByteArray
  | some xs => strOfNums xs
  | none => ⟨#[]⟩
def cellsF (p : Int × Option (List Int)) : List Value := [.int .i64 p.1, .string (strB p.2), .bool p.2.isNone]
/-- The slice at A holds these sectors; its memory lies below block B. -/
def HoldsF (w : World) (B : Nat) (A : Option Addr) (l : Sl) : Prop :=
  0 < l.length → ∃ b off : Nat, A = some ⟨b, off, none⟩ ∧ b < B ∧ ∀ (j : Nat) (p : Int × Option (List Int)), l[j]? = some p → w.rangeAt b (off + j * 3) (cellsF p)
theorem HoldsF.nil {w : World} {B : Nat} {A : Option Addr} : HoldsF w B A [] := fun h => absurd h (by simp)
theorem HoldsF.below {w w' : World} {B : Nat} {A : Option Addr} {l : Sl} (h : HoldsF w B A l) (hb : Below B w w') : HoldsF w' B A l := by
  intro hx
  obtain ⟨b, off, e, hB, hc⟩ := h hx
  exact ⟨b, off, e, hB, fun j p hj i u hu => (hb.cell (p := ⟨b, _, none⟩) hB).trans (hc j p hj i u hu)⟩
theorem HoldsF.more {w : World} {B B' : Nat} {A : Option Addr} {l : Sl} (h : HoldsF w B A l) (hB : B ≤ B') : HoldsF w B' A l := by
  intro hx
  obtain ⟨b, off, e, hb, hc⟩ := h hx
  exact ⟨b, off, e, by omega, hc⟩
theorem HoldsF.drewN {w : World} {B : Nat} {A : Option Addr} {l : Sl} (h : HoldsF w B A l) (n : Nat) : HoldsF (w.drewN n) B A l := h

/-- v is a row of sectors of the call's own. -/
def OwnF (w : World) (B : Nat) (v : Value) (l : Sl) : Prop := w.ownsRow B 95 3 v l.length (l.flatMap cellsF)
theorem flatF : ∀ (l : Sl) (i j : Nat) (p : Int × Option (List Int)) (u : Value), l[i]? = some p → (cellsF p)[j]? = some u → (l.flatMap cellsF)[i * 3 + j]? = some u
  | [], i, j, s, u, h, _ => by simp at h
  | a :: l, 0, j, s, u, h, hu => by
    simp at h
    subst h
    have hj : j < (cellsF a).length := (List.getElem?_eq_some_iff.1 hu).1
    rw [List.flatMap_cons, Nat.zero_mul, Nat.zero_add, List.getElem?_append_left hj]
    exact hu
  | a :: l, i + 1, j, s, u, h, hu => by
    have ih := flatF l i j s u (by simpa using h) hu
    rw [List.flatMap_cons, List.getElem?_append_right (by simp [cellsF]; omega)]
    have e : (i + 1) * 3 + j - (cellsF a).length = i * 3 + j := by simp [cellsF]; omega
    rw [e]
    exact ih
section
variable {w w' : World} {B : Nat} {v : Value} {l : Sl}
theorem OwnF.nil (w : World) (B : Nat) : OwnF w B (.slice none 0 0) [] := World.ownsRow_nil w B _ 3
theorem OwnF.empty {B : Nat} (w : World) (hB : B ≤ w.heap.size) : OwnF (w.alloc (.cells #[] 95)) B (.slice (some ⟨w.heap.size, 0, none⟩) 0 0) [] :=
  World.ownsRow_lit (size := 3) w #[] 0 hB (Nat.zero_le _) rfl
theorem OwnF.opened (h : OwnF w B v l) : ∃ (A : Option Addr) (c : Nat), v = .slice A l.length c ∧ l.length ≤ c ∧ c ≤ maxLen ∧ HoldsF w w.heap.size A l := by
  rcases h.2 with ⟨rfl, h0⟩ | ⟨g, cap, cur, rfl, hb, hg2, hnc, hcm, hcs, htake⟩
  · refine ⟨none, 0, by rw [h0], by omega, Nat.zero_le _, fun hx => by omega⟩
  · refine ⟨some ⟨g, 0, none⟩, cap, rfl, hnc, hcm, fun hx => ⟨g, 0, rfl, (Array.getElem?_eq_some_iff.1 hg2).1, fun i p hi j u hu => ?_⟩⟩
    have hcell := World.ownsRow.cells h (g := g) rfl (i * 3 + j) u (flatF l i j p u hi hu)
    rw [add_plain] at hcell
    rw [Nat.zero_add] at hcell ⊢
    exact hcell
theorem OwnF.lt (h : OwnF w B v l) : ∀ g, v.ownBlock = some g → B ≤ g ∧ g < w.heap.size := World.ownsRow.lt h
theorem OwnF.alloc (h : OwnF w B v l) (o : Obj) : OwnF (w.alloc o) B v l := World.ownsRow.alloc h o
theorem OwnF.drewN (h : OwnF w B v l) (n : Nat) : OwnF (w.drewN n) B v l := h
theorem OwnF.mono {B' : Nat} (h : OwnF w B v l) (hB : B' ≤ B) : OwnF w B' v l := by
  rcases h.2 with ⟨rfl, h0⟩ | ⟨g, cap, cur, rfl, hbg, hg, hnc, hcm, hcs, htake⟩
  · exact ⟨h.1, .inl ⟨rfl, h0⟩⟩
  · exact ⟨h.1, .inr ⟨g, cap, cur, rfl, by omega, hg, hnc, hcm, hcs, htake⟩⟩
theorem OwnF.out {S : Nat → Prop} (h : OwnF w B v l) (ho : TurnsIn S w w') (hv : ∀ g, v.ownBlock = some g → ¬ S g) : OwnF w' B v l := by
  rcases h.2 with ⟨rfl, h0⟩ | ⟨g, cap, cur, rfl, hbg, hg, hnc, hcm, hcs, htake⟩
  · exact ⟨h.1, .inl ⟨rfl, h0⟩⟩
  · exact ⟨h.1, .inr ⟨g, cap, cur, rfl, hbg, (ho.block g (Array.getElem?_eq_some_iff.1 hg).1 (hv g rfl)).trans hg, hnc, hcm, hcs, htake⟩⟩
theorem OwnF.turned (h : OwnF w B v l) (t : TurnsIn (fun b => v.ownBlock = some b) w w') (hB : B ≤ w.heap.size) : Below B w w' :=
  t.toBelow hB fun b hb he => by have := h.lt b he; omega
theorem elemF : Tryd.prog.underlying 28 = some (.slice 95) ∧ (Tryd.prog.info? 95).map (fun i => (i.zero, i.size, i.bytes)) = some (some (.agg #[.int .i64 0, .string ⟨#[]⟩, .bool false]), 3, 32) := by
  constructor <;> kernel_rfl

theorem run_append_F (h : OwnF w B v l) (p : Int × Option (List Int)) (c : Nat) (hsz : l.length ≤ 1000000000) (hbase : B ≤ w.heap.size) (ty : TypeId) :
    ∃ A' c' w', (Builtin.append_ #[28, 28] ty #[v, .slice (some ⟨w.heap.size, 0, none⟩) 1 c]).run Tryd.prog (w.alloc (.cells (cellsF p).toArray 95)) = .ok (.slice A' (l.length + 1) c') w' ∧
      OwnF w' B (.slice A' (l.length + 1) c') (l ++ [p]) ∧ TurnsIn (fun b => v.ownBlock = some b) w w' := by
  obtain ⟨ht, hinfo⟩ := elemF
  obtain ⟨i, hi, hz, hs, hby⟩ := info_parts hinfo
  have hnew := Block.new w 95 (cellsF p).toArray
  obtain ⟨g, cap, w', hrun, h2, h3, _, _⟩ := run_append_lies (P := Tryd.prog) (w.alloc (.cells (cellsF p).toArray 95)) 28 ty B 95 i _ 3 32 ht hi hz hs hby rfl (by omega) v l.length (l.flatMap cellsF) (h.alloc _)
    ⟨w.heap.size, 0, none⟩ 1 c (cellsF p) (by simp [cellsF]) (by
      intro j u hu
      have := World.news_of_block hnew j u (by simpa using hu)
      exact this) (by
      intro u hu
      simp [cellsF] at hu
      rcases hu with rfl | rfl | rfl <;> rfl) (by omega) (by unfold maxLen; omega) (by omega) (by simp; omega) _ rfl
  refine ⟨some ⟨g, 0, none⟩, cap, w', hrun, ?_, ((TurnsIn.refl _ w).alloc _).trans (.ofGrown h3 fun b hb => hb)⟩
  unfold OwnF
  rw [List.length_append, List.flatMap_append]
  simpa using h2
theorem wpList_append_F {ops : Array Oper} {rest : List Oper} {o : Oper} {a : Act} {Q : Exit → Act → World → Prop} (hgd : o.guard = none) (s x : Operand)
    (ho : o.op = Op.call { callee := Callee.builtin Builtin.append, args := #[s, x], argTypes := #[28, 28] })
    (p : Int × Option (List Int)) (hown : OwnF w B v l) (hs : a.eval s = v) {c : Nat} (hx : a.eval x = .slice (some ⟨w.heap.size, 0, none⟩) 1 c) (hsz : l.length ≤ 1000000000) (hbase : B ≤ w.heap.size)
    (hK : ∀ v' w', OwnF w' B v' (l ++ [p]) → Below B w w' → wpList Tryd.prog ops Q rest (a.put o.dst v') w') :
    wpList Tryd.prog ops Q (o :: rest) a (w.alloc (.cells #[.int .i64 p.1, .string (strB p.2), .bool p.2.isNone] 95)) := by
  refine wpList_plain hgd fun K hK2 => ?_
  obtain ⟨A', c', w', hrun, h2, h3⟩ := run_append_F hown p c hsz hbase o.type
  have hrun' : (Builtin.append_ #[28, 28] o.type #[v, .slice (some ⟨w.heap.size, 0, none⟩) 1 c]).run Tryd.prog (w.alloc (.cells #[.int .i64 p.1, .string (strB p.2), .bool p.2.isNone] 95)) = .ok (.slice A' (l.length + 1) c') w' := hrun
  unfold Oper.wp
  simp only [execOp, ho, resolve, invoke, builtin, Sem.run_bind, Sem.run_pure, Result.andThen_ok, List.map_toArray, List.map_cons, List.map_nil, hs, hx, hrun']
  exact hK2 _ _ (hK _ _ h2 (hown.turned h3 hbase))
end

/-- find: where a sector stands. -/
def FindsAt (l : Sl) (k : Int) (w : World) (e : Ending) (w' : World) : Prop :=
  w = w' ∧ match getS l k with
    | none => e = .returned (.int .i64 (-1))
    | some o => ∃ i : Nat, l[i]? = some (k, o) ∧ e = .returned (.int .i64 i)
theorem getS_take {l : Sl} {k : Int} {j : Nat} (hj : j < l.length) (h : getS (l.take j) k = none) : getS l k = if (l.getD j (0, none)).1 = k then some (l.getD j (0, none)).2 else getS (l.drop (j + 1)) k := by
  induction l generalizing j with
  | nil => simp at hj
  | cons q r ih =>
    obtain ⟨i, u⟩ := q
    cases j with
    | zero => rfl
    | succ n =>
      have e1 : getS ((i, u) :: r.take n) k = if i = k then some u else getS (r.take n) k := rfl
      rw [List.take_succ_cons, e1] at h
      have e2 : getS ((i, u) :: r) k = if i = k then some u else getS r k := rfl
      by_cases c : i = k
      · rw [if_pos c] at h; cases h
      · rw [if_neg c] at h
        rw [e2, if_neg c, ih (by simpa using hj) h]
        simp
theorem getS_take_next {l : Sl} {k : Int} {j : Nat} (hj : j < l.length) (h : getS (l.take j) k = none) (hk : (l.getD j (0, none)).1 ≠ k) : getS (l.take (j + 1)) k = none := by
  induction l generalizing j with
  | nil => simp at hj
  | cons q r ih =>
    obtain ⟨i, u⟩ := q
    cases j with
    | zero =>
      have e1 : getS ((i, u) :: ([] : Sl)) k = if i = k then some u else none := rfl
      simp only [Nat.zero_add, List.take_succ_cons, List.take_zero]
      rw [e1, if_neg (by simpa using hk)]
    | succ n =>
      have e1 : ∀ m, getS ((i, u) :: r.take m) k = if i = k then some u else getS (r.take m) k := fun _ => rfl
      rw [List.take_succ_cons, e1] at h ⊢
      by_cases c : i = k
      · rw [if_pos c] at h; cases h
      · rw [if_neg c] at h ⊢
        exact ih (by simpa using hj) h (by simpa using hk)

set_option maxRecDepth 100000 in
set_option maxHeartbeats 1600000 in
theorem find_any (A : Option Addr) (l : Sl) (c : Nat) (k : Int) (w : World) (hl : l.length ≤ 1000000000) (hr : HoldsF w w.heap.size A l) :
    Calls Tryd.prog 80 #[.slice A l.length c, .int .i64 k] w (FindsAt l k w) := by
  have HT := Lib.hid (fun j (h : j < l.length) => @getS_take l k j h)
  have HN := Lib.hid (fun j (h : j < l.length) => @getS_take_next l k j h)
  have HE : Hid (l.take l.length = l) := Lib.hid List.take_length
  go_enter Tryd.func80, Tryd.ntmps80
  go_wp2
  go_loop [8] (fun i => ∃ j : Nat, j ≤ l.length ∧ i = .int .i64 j ∧ getS (l.take j) k = none) (fun i => l.length - (intOf i).toNat)
  case atStart => exact ⟨0, Nat.zero_le _, rfl, rfl⟩
  case round =>
    obtain ⟨j, hj, rfl, hnone⟩ := hrel
    have Ha := Lib.hid hnone
    clear hnone
    by_cases hlt : j < l.length
    · obtain ⟨b, off, rfl, hb, hc⟩ := hr (by omega)
      have hp : l[j]? = some (l.getD j (0, none)) := by simp [List.getD, List.getElem?_eq_getElem hlt]
      have hcj : w.cell? ⟨b, off + j * 3, none⟩ = some (.int .i64 (l.getD j (0, none)).1) := hc j _ hp 0 _ rfl
      have hnext := Lib.hid (HN.out j hlt Ha.out)
      have hthis := Lib.hid (HT.out j hlt Ha.out)
      have HP := Lib.hid hp
      clear hc hp
      generalize l.getD j (0, none) = q at *
      have d1 : decide ((j : Int) < (l.length : Int)) = true := decide_eq_true (by omega)
      have d2 : decide (j < l.length) = true := decide_eq_true hlt
      by_cases hq : q.1 = k
      · have e1 : (q.1 == k) = true := by simpa using hq
        have hg : getS l k = some q.2 := by rw [hthis.out, if_pos hq]
        have Hg := Lib.hid hg
        have HQ := Lib.hid hq
        clear hg hq
        go_wp2
        go_ret
        refine ⟨rfl, ?_⟩
        rw [Hg.out]
        exact ⟨j, by rw [HP.out, ← HQ.out], rfl⟩
      · have e1 : (q.1 == k) = false := by simpa using hq
        have HQ := Lib.hid hq
        clear hq
        go_wp2
        go_round
        case rel => exact ⟨j + 1, hlt, by go_num, hnext.out HQ.out⟩
        case measure => simp [intOf] <;> omega
    · obtain rfl : j = l.length := by omega
      have d1 : decide ((l.length : Int) < (l.length : Int)) = false := decide_eq_false (by omega)
      have d2 : decide (l.length < l.length) = false := decide_eq_false (by omega)
      rw [HE.out] at Ha
      go_wp2
      go_ret
      refine ⟨rfl, ?_⟩
      rw [Ha.out]
      rfl
end Go.Proofs.YtpnodocjpedcmaaDoor.Sec

namespace Go.Proofs.YtpnodocjpedcmaaDoor.Sec
open Go.ChangeShapes Go.WideShapes Go.ChangeAt Go.RowKit Go.Proofs.YtpnodocjpedcmaaDoor.Kit

/-- A row of cells of any values is loaded, where a guard may stand. -/
theorem wpList_load_midV {P : Program} {w : World} {ops : Array Oper} {rest : List Oper} {o : Oper} {a : Act} {Q : Exit → Act → World → Prop} (hw : Region.wanted o (yielded ops a.tmps) = true) (ty : TypeId) (x : Operand) (ho : o.op = .load ty x)
    (b f : Nat) (hx : a.eval x = .pointer (some ⟨b, f, none⟩)) (cs : List Value) (hc : w.rangeAt b f cs) {d : TypeDesc} (hu : P.underlying ty = some d) (hd : d.isRow = true) (hi : (P.info? ty).map (·.size) = some cs.length)
    (hK : wpList P ops Q rest (a.put o.dst (.agg cs.toArray)) w) : wpList P ops Q (o :: rest) a w :=
  wpList_step fun K hK' => by
    rw [if_pos hw]
    exact wp_load_mid ty x ho b f hx cs d hc hu hd hi (hK' _ _ hK)
theorem block_range {w : World} {g : Nat} {t : TypeId} {L : List Value} (h : Block w g t L.toArray) : w.rangeAt g 0 L := by
  intro j v hj
  rw [h.cell, List.getElem?_toArray, Nat.zero_add, hj]

/-- One round of put. -/
def stepP (k : Int) (o : Option (List Int)) (s : Sl × Bool) (p : Int × Option (List Int)) : Sl × Bool :=
  if s.2 = false ∧ k ≤ p.1 then (if p.1 = k then (s.1 ++ [(k, o)], true) else (s.1 ++ [(k, o)] ++ [p], true)) else (if p.1 = k then s else (s.1 ++ [p], s.2))
def finP (k : Int) (o : Option (List Int)) (s : Sl × Bool) : Sl := if s.2 = true then s.1 else s.1 ++ [(k, o)]
theorem put_tail (k : Int) (o : Option (List Int)) : ∀ (l acc : Sl), (∀ p ∈ l, k < p.1) → l.foldl (stepP k o) (acc, true) = (acc ++ l, true)
  | [], acc, _ => by simp
  | p :: r, acc, h => by
    have hp := h p (by simp)
    rw [List.foldl_cons]
    have e : stepP k o (acc, true) p = (acc ++ [p], true) := by
      unfold stepP
      rw [if_neg (by simp), if_neg (by omega)]
    rw [e, put_tail k o r (acc ++ [p]) (fun x hx => h x (List.mem_cons_of_mem _ hx))]
    simp
theorem put_fold (k : Int) (o : Option (List Int)) : ∀ (l acc : Sl), Up l → finP k o (l.foldl (stepP k o) (acc, false)) = acc ++ putS l k o
  | [], acc, _ => rfl
  | p :: r, acc, h => by
    obtain ⟨j, u⟩ := p
    obtain ⟨h1, h2⟩ := List.pairwise_cons.1 h
    rw [List.foldl_cons]
    unfold putS
    by_cases c1 : k < j
    · have e : stepP k o (acc, false) (j, u) = (acc ++ [(k, o)] ++ [(j, u)], true) := by
        unfold stepP
        rw [if_pos ⟨rfl, by show k ≤ j; omega⟩, if_neg (by show ¬ j = k; omega)]
      rw [e, put_tail k o r _ (fun x hx => by have : j < x.1 := h1 x hx; omega), if_pos c1]
      unfold finP
      simp
    · by_cases c2 : k = j
      · subst c2
        have e : stepP k o (acc, false) (k, u) = (acc ++ [(k, o)], true) := by
          unfold stepP
          rw [if_pos ⟨rfl, Int.le_refl _⟩, if_pos rfl]
        rw [e, put_tail k o r _ (fun x hx => by have : k < x.1 := h1 x hx; omega), if_neg c1, if_pos rfl]
        unfold finP
        simp
      · have e : stepP k o (acc, false) (j, u) = (acc ++ [(j, u)], false) := by
          unfold stepP
          rw [if_neg (by rintro ⟨_, hh⟩; have : k ≤ j := hh; omega), if_neg (by show ¬ j = k; omega)]
        rw [e, put_fold k o r _ h2, if_neg c1, if_neg c2]
        simp
theorem stepP_len (k : Int) (o : Option (List Int)) : ∀ (l : Sl) (s : Sl × Bool), (l.foldl (stepP k o) s).1.length ≤ s.1.length + 2 * l.length
  | [], s => by simp
  | p :: r, s => by
    rw [List.foldl_cons]
    have := stepP_len k o r (stepP k o s p)
    have e : (stepP k o s p).1.length ≤ s.1.length + 2 := by
      unfold stepP
      split
      · split <;> simp
      · split <;> simp
    rw [List.length_cons]
    omega
def putA (l : Sl) (k : Int) (o : Option (List Int)) (j : Nat) : Sl × Bool := (l.take j).foldl (stepP k o) ([], false)
theorem putA_next (l : Sl) (k : Int) (o : Option (List Int)) (j : Nat) (h : j < l.length) : putA l k o (j + 1) = stepP k o (putA l k o j) (l.getD j (0, none)) := by
  unfold putA
  rw [List.take_succ_eq_append_getElem h, List.foldl_append]
  simp [List.getD, List.getElem?_eq_getElem h]
theorem putA_len (l : Sl) (k : Int) (o : Option (List Int)) (j : Nat) : (putA l k o j).1.length ≤ 2 * l.length := by
  have := stepP_len k o (l.take j) ([], false)
  have := List.length_take_le j l
  unfold putA
  simp at *
  omega

def GivesF (l : Sl) (w : World) (e : Ending) (w' : World) : Prop := ∃ v, e = .returned v ∧ OwnF w' w.heap.size v l ∧ Below w.heap.size w w'

set_option maxRecDepth 100000 in
set_option maxHeartbeats 6400000 in
theorem put_any (A : Option Addr) (l : Sl) (c : Nat) (k : Int) (o : Option (List Int)) (w : World) (hl : l.length ≤ 10000000) (hu : Up l) (hr : HoldsF w w.heap.size A l) :
    Calls Tryd.prog 44 #[.slice A l.length c, .agg (cellsF (k, o)).toArray] w (GivesF (putS l k o) w) := by
  have HF : Hid (finP k o (putA l k o l.length) = putS l k o) := Lib.hid (by have := put_fold k o l [] hu; unfold putA; rw [List.take_length, this]; rfl)
  have HA := Lib.hid (fun j (h : j < l.length) => putA_next l k o j h)
  have HL := Lib.hid (fun j => putA_len l k o j)
  have H0 : Hid (putA l k o 0 = ([], false)) := Lib.hid rfl
  generalize putS l k o = R at *
  have X1 : Block (w.alloc (.cells (cellsF (k, o)).toArray 95)) w.heap.size 95 (cellsF (k, o)).toArray := Block.new w _ _
  have B1 : Below w.heap.size w (w.alloc (.cells (cellsF (k, o)).toArray 95)) := (Below.refl _ _).alloc (Nat.le_refl _) _
  have hr1 := hr.below B1
  have z1 : (w.alloc (.cells (cellsF (k, o)).toArray 95)).heap.size = w.heap.size + 1 := by simp
  generalize hW : w.alloc (.cells (cellsF (k, o)).toArray 95) = w1 at *
  have own0 : OwnF (w1.alloc (.cells #[] 95)) (w.heap.size + 1) (.slice (some ⟨w1.heap.size, 0, none⟩) 0 0) [] := OwnF.empty w1 (by omega)
  have C0 : Below (w.heap.size + 1) w1 (w1.alloc (.cells #[] 95)) := (Below.refl _ _).alloc (by omega) _
  have Hz := Lib.hid z1
  have Hle : w.heap.size + 1 ≤ w1.heap.size := by omega
  clear z1 hr hu
  go_enter Tryd.func44, Tryd.ntmps44
  go_wp2
  go_loopw [5, 6, 11] (fun v d i wz => ∃ j : Nat, j ≤ l.length ∧ i = .int .i64 j ∧ d = .bool (putA l k o j).2 ∧ OwnF wz (w.heap.size + 1) v (putA l k o j).1 ∧ Below (w.heap.size + 1) w1 wz) (fun _ _ i _ => l.length - (intOf i).toNat)
  case atStart => exact ⟨0, Nat.zero_le _, rfl, by rw [H0.out], by rw [H0.out]; first | exact own0 | (simpa using own0), by first | exact C0 | (simpa using C0)⟩
  case round =>
    clear own0 C0
    obtain ⟨j, hj, rfl, rfl, own, C⟩ := hrel
    have hlen := HL.out j
    have X := X1.below C (by omega)
    have hk0 : wr.cell? ⟨w.heap.size, 0, none⟩ = some (.int .i64 k) := X.cell 0
    by_cases hlt : j < l.length
    · obtain ⟨b, off, rfl, hb, hc⟩ := hr1 (by omega)
      have hp : l[j]? = some (l.getD j (0, none)) := by simp [List.getD, List.getElem?_eq_getElem hlt]
      have hcw : wr.rangeAt b (off + j * 3) (cellsF (l.getD j (0, none))) := fun i u hu => (C.cell (p := ⟨b, _, none⟩) (by show b < w.heap.size + 1; omega)).trans (hc j _ hp i u hu)
      have hcj : wr.cell? ⟨b, off + j * 3, none⟩ = some (.int .i64 (l.getD j (0, none)).1) := hcw 0 _ rfl
      have hnext := Lib.hid (HA.out j hlt)
      have hr2 := Lib.hid (fun (wz : World) (h : Below (w.heap.size + 1) w1 wz) => (fun i u hu => (h.cell (p := ⟨b, _, none⟩) (by show b < w.heap.size + 1; omega)).trans (hc j _ hp i u hu) : wz.rangeAt b (off + j * 3) (cellsF (l.getD j (0, none)))))
      clear hc hp HA HL
      generalize hq : l.getD j (0, none) = q at *
      clear hq
      obtain ⟨out, d, hst⟩ : ∃ out d, putA l k o j = (out, d) := ⟨_, _, rfl⟩
      rw [hst] at own hlen hnext
      simp only [hst]
      clear hst
      have d1 : decide ((j : Int) < (l.length : Int)) = true := decide_eq_true (by omega)
      have d2 : decide (j < l.length) = true := decide_eq_true hlt
      have HB := Lib.hid C
      have hxr := Lib.hid (fun (wz : World) (h : Below (w.heap.size + 1) w1 wz) => block_range (L := cellsF (k, o)) (X1.below h (by omega)))
      simp only at own hlen
      clear C X
      by_cases ht : d = false ∧ k ≤ q.1
      · obtain ⟨rfl, hle⟩ := ht
        have hd3 : decide (k ≤ q.1) = true := decide_eq_true hle
        by_cases he : q.1 = k
        · have he1 : (q.1 != k) = false := by simpa using he
          have he2 : (q.1 == k) = true := by simpa using he
          have HS : Hid (putA l k o (j + 1) = (out ++ [(k, o)], true)) := Lib.hid (by rw [hnext.out]; unfold stepP; rw [if_pos ⟨rfl, hle⟩, if_pos he])
          clear he hnext
          go_wp2_with fail
          go_quiet (fail)
          have C4 : Below (w.heap.size + 1) w1 (wr.drewN nq) := below_draws HB.out _
          have own4 := own.drewN nq
          go_wp2_with (first
            | (have _t := own4; refine wpList_load_midV (by rfl) _ _ rfl w.heap.size 0 rfl [.int .i64 k, .string (strB o), .bool o.isNone] (hxr.out _ C4) Tryd.underlying95 rfl (by rfl) ?_)
            | (have _t := own4; at_builtin; refine wpList_append_F rfl _ _ rfl (k, o) own4 rfl rfl (by omega) (by have := C4.size; omega) ?_; clear _t; intro v5 w5 own5 b5; have C5 := C4.trans b5; have m0 : w5.cell? ⟨b, off + j * 3, none⟩ = some (.int .i64 q.1) := hr2.out w5 C5 0 _ rfl; have m1 : w5.cell? ⟨w.heap.size, 0, none⟩ = some (.int .i64 k) := hxr.out w5 C5 0 _ rfl; clear own4 own hk0 hcj))
          go_quiet (fail)
          have C6 : Below (w.heap.size + 1) w1 (w5.drewN nq) := below_draws C5 _
          have own6 := own5.drewN nq
          go_wp2_with fail
          go_roundw
          case rel => exact ⟨j + 1, hlt, by go_num, by rw [HS.out], by rw [HS.out]; exact own6, C6⟩
          case measure => simp [intOf] <;> omega
        · have he1 : (q.1 != k) = true := by simpa using he
          have he2 : (q.1 == k) = false := by simpa using he
          have HS : Hid (putA l k o (j + 1) = (out ++ [(k, o)] ++ [q], true)) := Lib.hid (by rw [hnext.out]; unfold stepP; rw [if_pos ⟨rfl, hle⟩, if_neg he])
          clear he hnext
          go_wp2_with fail
          go_quiet (fail)
          have C4 : Below (w.heap.size + 1) w1 (wr.drewN nq) := below_draws HB.out _
          have own4 := own.drewN nq
          go_wp2_with (first
            | (have _t := own4; refine wpList_load_midV (by rfl) _ _ rfl w.heap.size 0 rfl [.int .i64 k, .string (strB o), .bool o.isNone] (hxr.out _ C4) Tryd.underlying95 rfl (by rfl) ?_)
            | (have _t := own4; at_builtin; refine wpList_append_F rfl _ _ rfl (k, o) own4 rfl rfl (by omega) (by have := C4.size; omega) ?_; clear _t; intro v5 w5 own5 b5; have C5 := C4.trans b5; have m0 : w5.cell? ⟨b, off + j * 3, none⟩ = some (.int .i64 q.1) := hr2.out w5 C5 0 _ rfl; have m1 : w5.cell? ⟨w.heap.size, 0, none⟩ = some (.int .i64 k) := hxr.out w5 C5 0 _ rfl; clear own4 own hk0 hcj))
          go_quiet (fail)
          have C6 : Below (w.heap.size + 1) w1 (w5.drewN nq) := below_draws C5 _
          have own6 := own5.drewN nq
          generalize w5.drewN nq = w6 at *
          go_wp2_with (first
            | (have _t := own6; refine wpList_load_midV (by rfl) _ _ rfl b (off + j * 3) rfl [.int .i64 q.1, .string (strB q.2), .bool q.2.isNone] (hr2.out _ C6) Tryd.underlying95 rfl (by rfl) ?_)
            | (have _t := own6; at_builtin; refine wpList_append_F rfl _ _ rfl q own6 rfl rfl (by first | omega | (simp only [List.length_append, List.length_cons, List.length_nil]; omega)) (by have := C6.size; omega) ?_; clear _t; intro v7 w7 own7 b7; have C7 := C6.trans b7; clear own6))
          go_roundw
          case rel => exact ⟨j + 1, hlt, by go_num, by rw [HS.out], by rw [HS.out]; exact own7, C7⟩
          case measure => simp [intOf] <;> omega
      · cases d with
        | true =>
          by_cases he : q.1 = k
          · have he1 : (q.1 != k) = false := by simpa using he
            have he2 : (q.1 == k) = true := by simpa using he
            have HS : Hid (putA l k o (j + 1) = (out, true)) := Lib.hid (by rw [hnext.out]; unfold stepP; rw [if_neg (by simp), if_pos he])
            clear he hnext
            go_wp2_with fail
            go_quiet (fail)
            have m0 : (wr.drewN nq).cell? ⟨b, off + j * 3, none⟩ = some (.int .i64 q.1) := hr2.out _ (below_draws HB.out nq) 0 _ rfl
            have m1 : (wr.drewN nq).cell? ⟨w.heap.size, 0, none⟩ = some (.int .i64 k) := hxr.out _ (below_draws HB.out nq) 0 _ rfl
            have own5 := own.drewN nq
            have C5 : Below (w.heap.size + 1) w1 (wr.drewN nq) := below_draws HB.out _
            generalize wr.drewN nq = w5 at *
            go_wp2_with fail
            go_quiet (fail)
            have C6 : Below (w.heap.size + 1) w1 (w5.drewN nq) := below_draws C5 _
            have own6 := own5.drewN nq
            go_wp2_with fail
            go_roundw
            case rel => exact ⟨j + 1, hlt, by go_num, by rw [HS.out], by rw [HS.out]; exact own6, C6⟩
            case measure => simp [intOf] <;> omega
          · have he1 : (q.1 != k) = true := by simpa using he
            have he2 : (q.1 == k) = false := by simpa using he
            have HS : Hid (putA l k o (j + 1) = (out ++ [q], true)) := Lib.hid (by rw [hnext.out]; unfold stepP; rw [if_neg (by simp), if_neg he])
            clear he hnext
            go_wp2_with fail
            go_quiet (fail)
            have m0 : (wr.drewN nq).cell? ⟨b, off + j * 3, none⟩ = some (.int .i64 q.1) := hr2.out _ (below_draws HB.out nq) 0 _ rfl
            have m1 : (wr.drewN nq).cell? ⟨w.heap.size, 0, none⟩ = some (.int .i64 k) := hxr.out _ (below_draws HB.out nq) 0 _ rfl
            have own5 := own.drewN nq
            have C5 : Below (w.heap.size + 1) w1 (wr.drewN nq) := below_draws HB.out _
            generalize wr.drewN nq = w5 at *
            go_wp2_with fail
            go_quiet (fail)
            have C6 : Below (w.heap.size + 1) w1 (w5.drewN nq) := below_draws C5 _
            have own6 := own5.drewN nq
            generalize w5.drewN nq = w6 at *
            go_wp2_with (first
              | (have _t := own6; refine wpList_load_midV (by rfl) _ _ rfl b (off + j * 3) rfl [.int .i64 q.1, .string (strB q.2), .bool q.2.isNone] (hr2.out _ C6) Tryd.underlying95 rfl (by rfl) ?_)
              | (have _t := own6; at_builtin; refine wpList_append_F rfl _ _ rfl q own6 rfl rfl (by first | omega | (simp only [List.length_append, List.length_cons, List.length_nil]; omega)) (by have := C6.size; omega) ?_; clear _t; intro v7 w7 own7 b7; have C7 := C6.trans b7; clear own6))
            go_roundw
            case rel => exact ⟨j + 1, hlt, by go_num, by rw [HS.out], by rw [HS.out]; exact own7, C7⟩
            case measure => simp [intOf] <;> omega
        | false =>
          have hle : ¬ k ≤ q.1 := fun h => ht ⟨rfl, h⟩
          have hd3 : decide (k ≤ q.1) = false := decide_eq_false hle
          have he : ¬ q.1 = k := by omega
          have he1 : (q.1 != k) = true := by simpa using he
          have he2 : (q.1 == k) = false := by simpa using he
          have HS : Hid (putA l k o (j + 1) = (out ++ [q], false)) := Lib.hid (by rw [hnext.out]; unfold stepP; rw [if_neg (by rintro ⟨_, h⟩; exact hle h), if_neg he])
          clear he hnext
          go_wp2_with fail
          go_quiet (fail)
          have m0 : (wr.drewN nq).cell? ⟨b, off + j * 3, none⟩ = some (.int .i64 q.1) := hr2.out _ (below_draws HB.out nq) 0 _ rfl
          have m1 : (wr.drewN nq).cell? ⟨w.heap.size, 0, none⟩ = some (.int .i64 k) := hxr.out _ (below_draws HB.out nq) 0 _ rfl
          have own5 := own.drewN nq
          have C5 : Below (w.heap.size + 1) w1 (wr.drewN nq) := below_draws HB.out _
          generalize wr.drewN nq = w5 at *
          go_wp2_with fail
          go_quiet (fail)
          have C6 : Below (w.heap.size + 1) w1 (w5.drewN nq) := below_draws C5 _
          have own6 := own5.drewN nq
          generalize w5.drewN nq = w6 at *
          go_wp2_with (first
            | (have _t := own6; refine wpList_load_midV (by rfl) _ _ rfl b (off + j * 3) rfl [.int .i64 q.1, .string (strB q.2), .bool q.2.isNone] (hr2.out _ C6) Tryd.underlying95 rfl (by rfl) ?_)
            | (have _t := own6; at_builtin; refine wpList_append_F rfl _ _ rfl q own6 rfl rfl (by first | omega | (simp only [List.length_append, List.length_cons, List.length_nil]; omega)) (by have := C6.size; omega) ?_; clear _t; intro v7 w7 own7 b7; have C7 := C6.trans b7; clear own6))
          go_roundw
          case rel => exact ⟨j + 1, hlt, by go_num, by rw [HS.out], by rw [HS.out]; exact own7, C7⟩
          case measure => simp [intOf] <;> omega
    · obtain rfl : j = l.length := by omega
      have d1 : decide ((l.length : Int) < (l.length : Int)) = false := decide_eq_false (by omega)
      have d2 : decide (l.length < l.length) = false := decide_eq_false (by omega)
      have hX := block_range (L := [.int .i64 k, .string (strB o), .bool o.isNone]) X
      obtain ⟨out, d, hst⟩ : ∃ out d, putA l k o l.length = (out, d) := ⟨_, _, rfl⟩
      rw [hst] at own hlen HF
      simp only [hst]
      clear hst
      simp only at own hlen
      cases d with
      | true =>
        have hR : out = R := HF.out
        have HR := Lib.hid hR
        clear hR
        go_wp2_with fail
        go_ret
        exact ⟨_, rfl, by rw [← HR.out]; exact own.mono (by omega), B1.trans (C.mono (by omega))⟩
      | false =>
        have hR : out ++ [(k, o)] = R := HF.out
        have HR := Lib.hid hR
        clear hR
        go_wp2_with (first
          | (have _t := own; refine wpList_load_midV (by rfl) _ _ rfl w.heap.size 0 rfl [.int .i64 k, .string (strB o), .bool o.isNone] hX Tryd.underlying95 rfl (by rfl) ?_)
          | (have _t := own; at_builtin; refine wpList_append_F rfl _ _ rfl (k, o) own rfl rfl (by omega) (by have := C.size; omega) ?_; clear _t; intro v5 w5 own5 b5; have C5 := C.trans b5; clear own))
        go_ret
        exact ⟨_, rfl, by rw [← HR.out]; exact own5.mono (by omega), B1.trans (C5.mono (by omega))⟩
end Go.Proofs.YtpnodocjpedcmaaDoor.Sec

namespace Go.Proofs.YtpnodocjpedcmaaDoor.Kit
open Go.ChangeShapes Go.WideShapes Go.ChangeAt Go.RowKit

/-- The array's value. -/
def arrV (k : IntKind) (xs : List Int) : Value := .agg (xs.map (Value.int k)).toArray

/-- Block g is just the array xs, of elements of type t. -/
def Arr (w : World) (g : Nat) (t : TypeId) (k : IntKind) (xs : List Int) : Prop := Block w g t (xs.map (Value.int k)).toArray

section
variable {w w' : World} {B g : Nat} {t e : TypeId} {k : IntKind} {xs ys : List Int}

theorem Arr.new (w : World) (t : TypeId) (k : IntKind) (xs : List Int) : Arr (w.alloc (.cells (xs.map (Value.int k)).toArray t)) w.heap.size t k xs := Block.new w t _
theorem Arr.lt (h : Arr w g t k xs) : g < w.heap.size := Block.lt h
theorem Arr.cell (h : Arr w g t k xs) {i : Nat} (hi : i < xs.length) : w.cell? ⟨g, i, none⟩ = some (.int k (xs[i]?.getD 0)) := by
  rw [Block.cell h i]
  simp [List.getElem?_eq_getElem hi]
theorem Arr.frozen (h : Arr w g t k xs) (i : Nat) : w.frozen? ⟨g, i, none⟩ = false := Block.frozen h i
theorem Arr.below (h : Arr w g t k xs) (hb : Below B w w') (hg : g < B) : Arr w' g t k xs := Block.below h hb hg
theorem Arr.grown {row : Option Nat} (h : Arr w g t k xs) (hb : w.grownBy w' row) (hg : row ≠ some g) : Arr w' g t k xs := Block.grown h hb hg
theorem Arr.alloc (h : Arr w g t k xs) (o : Obj) : Arr (w.alloc o) g t k xs := Block.alloc h o
theorem Arr.drewN (h : Arr w g t k xs) (n : Nat) : Arr (w.drewN n) g t k xs := h
theorem Arr.set_ (h : Arr w g t k xs) (i : Nat) (z : Int) : Arr (w.setCell ⟨g, i, none⟩ (.int k z)) g t k (xs.set i z) := by
  have := Block.set_ h i (.int k z)
  unfold Arr
  rwa [List.setIfInBounds_toArray, ← List.map_set] at this
theorem Arr.far (h : Arr w g t k xs) {p : Addr} (hp : g ≠ p.block) (u : Value) : Arr (w.setCell p u) g t k xs := Block.far h hp u

/-- The array as a slice, from a on, n cells of it. -/
theorem Arr.holds (h : Arr w g t k xs) (a n : Nat) : Holds w w.heap.size k (some ⟨g, a, none⟩) ((xs.drop a).take n) := by
  intro hx
  refine ⟨g, a, rfl, h.lt, fun j hj => ?_⟩
  simp only [List.length_take, List.length_drop] at hj
  rw [h.cell (i := a + j) (by omega)]
  simp [List.getD, show j < n by omega]

theorem Arr.holds_all (h : Arr w g t k xs) : Holds w w.heap.size k (some ⟨g, 0, none⟩) xs := by
  have := h.holds 0 xs.length
  rwa [List.drop_zero, List.take_of_length_le (Nat.le_refl _)] at this

theorem Arr.range (h : Arr w g t k xs) : w.rangeAt g 0 (xs.map (Value.int k)) := by
  intro j v hj
  obtain ⟨hl, rfl⟩ := get_ints hj
  rw [Nat.zero_add, h.cell hl]
  simp [List.getD]

theorem Arr.there (h : Arr w g t k xs) {n : Nat} (hn : n ≤ xs.length) : w.there g 0 n := fun j hj => by
  rw [Nat.zero_add, h.cell (i := j) (by omega)]
  exact ⟨rfl, h.frozen j⟩

theorem setCells_grown (g : Nat) : ∀ (vs : List Value) (o : Nat) (w : World), w.grownBy (w.setCells g o vs) (some g)
  | [], o, w => World.grownBy.refl w _
  | v :: r, o, w => by
    have h1 : w.grownBy (w.setCell ⟨g, o, none⟩ v) (some g) := ⟨rfl, rfl, rfl, by simp, fun k _ hk => heap_setCell_other w ⟨g, o, none⟩ k v (fun e => hk (by rw [e]))⟩
    have h2 := setCells_grown g r (o + 1) (w.setCell ⟨g, o, none⟩ v)
    exact ⟨h2.os.trans h1.os, h2.tape.trans h1.tape, h2.output.trans h1.output, Nat.le_trans h1.size h2.size, fun j hj hne => (h2.block j (Nat.lt_of_lt_of_le hj h1.size) hne).trans (h1.block j hj hne)⟩

theorem setCells_block : ∀ (vs : List Value) (o : Nat) (w : World) (cs : Array Value), Block w g t cs → o + vs.length ≤ cs.size →
    Block (w.setCells g o vs) g t (cs.toList.take o ++ (vs ++ cs.toList.drop (o + vs.length))).toArray
  | [], o, w, cs, h, _ => by
    have e : (cs.toList.take o ++ ([] ++ cs.toList.drop (o + 0))).toArray = cs := by simp
    show Block w g t (cs.toList.take o ++ ([] ++ cs.toList.drop (o + 0))).toArray
    rw [e]; exact h
  | v :: r, o, w, cs, h, hl => by
    simp only [List.length_cons] at hl
    have h1 := setCells_block r (o + 1) (w.setCell ⟨g, o, none⟩ v) _ (h.set_ o v) (by simp; omega)
    have e : ((cs.setIfInBounds o v).toList.take (o + 1) ++ (r ++ (cs.setIfInBounds o v).toList.drop (o + 1 + r.length))) = cs.toList.take o ++ (v :: r ++ cs.toList.drop (o + (v :: r).length)) := by
      rw [Array.toList_setIfInBounds, List.take_add_one]
      have hd : (cs.toList.set o v).drop (o + 1 + r.length) = cs.toList.drop (o + (v :: r).length) := by
        rw [List.drop_set, if_pos (by omega), List.length_cons]; congr 1; omega
      rw [hd]
      have ht : (cs.toList.set o v).take o = cs.toList.take o := by
        apply List.ext_getElem?
        intro j
        rw [List.getElem?_take, List.getElem?_take]
        split
        · rw [List.getElem?_set_ne (by omega)]
        · rfl
      rw [ht]
      simp [List.getElem?_set, show o < cs.size by omega]
    rw [e] at h1
    exact h1
end

section
variable {P : Program} {w : World}

/-- A whole array is loaded. -/
theorem wpList_load_arr {ops : Array Oper} {rest : List Oper} {o : Oper} {a : Act} {Q : Exit → Act → World → Prop} (hgd : o.guard = none) (ty : TypeId) (x : Operand) (ho : o.op = .load ty x)
    {g : Nat} {t : TypeId} {k : IntKind} {xs : List Int} (h : Arr w g t k xs) (hx : a.eval x = .pointer (some ⟨g, 0, none⟩)) {d : TypeDesc} (hu : P.underlying ty = some d) (hd : d.isRow = true) (hi : (P.info? ty).map (·.size) = some xs.length)
    (hK : wpList P ops Q rest (a.put o.dst (arrV k xs)) w) : wpList P ops Q (o :: rest) a w :=
  wpList_load_mid hgd ty x ho g 0 hx (xs.map (Value.int k)) d h.range hu hd (by simpa using hi) hK

/-- A whole array is stored over another. -/
theorem wpList_store_arr {ops : Array Oper} {rest : List Oper} {o : Oper} {a : Act} {Q : Exit → Act → World → Prop} (hgd : o.guard = none) (ty : TypeId) (x y : Operand) (ho : o.op = .store ty x y)
    {g : Nat} {t : TypeId} {k : IntKind} {xs ys : List Int} (h : Arr w g t k xs) (hx : a.eval x = .pointer (some ⟨g, 0, none⟩)) (hy : a.eval y = arrV k ys) (hl : ys.length = xs.length) (hi : (P.info? ty).map (·.size) = some ys.length)
    (hK : ∀ w', Arr w' g t k ys → w.grownBy w' (some g) → wpList P ops Q rest (a.put o.dst undef) w') : wpList P ops Q (o :: rest) a w := by
  refine wpList_store_mid hgd ty x y ho g 0 (ys.map (Value.int k)).toArray hx hy (by simpa using h.there (by omega)) (by simpa using hi) (all_oneCell_toArray (ints_one k ys)) ?_
  refine hK _ ?_ (setCells_grown g _ 0 w)
  have := setCells_block (ys.map (Value.int k)) 0 w _ h (by simp; omega)
  unfold Arr
  have e : ((xs.map (Value.int k)).toArray.toList.take 0 ++ (ys.map (Value.int k) ++ (xs.map (Value.int k)).toArray.toList.drop (0 + (ys.map (Value.int k)).length))).toArray = (ys.map (Value.int k)).toArray := by
    simp [hl]
  rw [e] at this
  simpa using this

theorem run_eqItems_ints (d : Nat) {e : TypeId} {k k' : IntKind} (he : P.plainKey e = true) (hu : P.underlying e = some (.int k')) (hc : P.cellsOf e = 1) (xs ys : List Int) :
    ∀ is : List Nat, (∀ i ∈ is, i < xs.length ∧ i < ys.length) → (Op.eqItems (d + 1) e (P.cellsOf e) (xs.map (Value.int k)).toArray (ys.map (Value.int k)).toArray is).run P w = .ok (decide (∀ i ∈ is, xs[i]?.getD 0 = ys[i]?.getD 0)) w
  | [], _ => by simp [Op.eqItems]
  | i :: is, h => by
    obtain ⟨h1, h2⟩ := h i (by simp)
    have ih := run_eqItems_ints (k := k) d he hu hc xs ys is (fun j hj => h j (by simp [hj]))
    have p1 := run_part_plain (P := P) w he (xs := (xs.map (Value.int k)).toArray) (off := i * P.cellsOf e) (v := .int k (xs[i]?.getD 0)) (by rw [hc]; simp [h1])
    have p2 := run_part_plain (P := P) w he (xs := (ys.map (Value.int k)).toArray) (off := i * P.cellsOf e) (v := .int k (ys[i]?.getD 0)) (by rw [hc]; simp [h2])
    have p3 : (Op.equalIn (d + 1) e (.int k (xs[i]?.getD 0)) (.int k (ys[i]?.getD 0))).run P w = .ok (xs[i]?.getD 0 == ys[i]?.getD 0) w := by
      simp [Op.equalIn, run_underlying hu]
    simp only [Op.eqItems, Sem.run_bind, p1, p2, p3, Result.andThen_ok]
    by_cases hq : xs[i]?.getD 0 = ys[i]?.getD 0
    · simp only [hq, beq_self_eq_true, Bool.not_true, Bool.false_eq_true, if_false]
      rw [ih]
      congr 1
      simp [hq]
    · have hq' : (xs[i]?.getD 0 == ys[i]?.getD 0) = false := by simpa using hq
      simp only [hq', Bool.not_false, if_true, Sem.run_pure]
      congr 1
      simp [hq]

/-- == of two arrays of integers. -/
theorem run_eql_arr {t e : TypeId} {k k' : IntKind} {i : TypeInfo} (xs ys : List Int) (ht : P.underlying t = some (.array xs.length e)) (hi : P.info? e = some i) (he : P.plainKey e = true) (hu : P.underlying e = some (.int k')) (hc : P.cellsOf e = 1) (hl : xs.length = ys.length) :
    (binOp .eql t (arrV k xs) (arrV k ys)).run P w = .ok (.bool (decide (xs = ys))) w := by
  have h1 := run_equalIn_array (P := P) (w := w) 9999 (xs.map (Value.int k)).toArray (ys.map (Value.int k)).toArray ht hi
  have h2 := run_eqItems_ints (P := P) (w := w) 9998 (k := k) he hu hc xs ys (List.range xs.length) (fun j hj => by have := List.mem_range.1 hj; omega)
  have e1 : decide (∀ j ∈ List.range xs.length, xs[j]?.getD 0 = ys[j]?.getD 0) = decide (xs = ys) := by
    rw [decide_eq_decide]
    constructor
    · intro h
      apply List.ext_getElem hl
      intro j hj hj'
      have := h j (List.mem_range.2 hj)
      simpa [hj, hj'] using this
    · rintro rfl j _; rfl
  rw [e1] at h2
  rw [h2] at h1
  unfold arrV
  simp only [binOp]
  simp [Op.equal, Op.maxDepth, h1]
end

section
variable {H : Type} {enc : TypeId × Value → H} {P : Program} {w : World} {base b0 : Nat} {sp : Nat → Bool} {held : Bool}

/-- An array of integers that came in by value. -/
theorem open_array {r : Reach} {t e : TypeId} {n : Nat} {k : IntKind} (ht : P.underlying t = some (.array n e)) (he : P.underlying e = some (.int k)) (hc : P.cellsOf e = 1) (hct : P.cellsOf t = n)
    {v : Value} {d : DataW H} {ps : List MemPlace} (hv : Value.okWide P w r b0 t v) (h : DataW.Trod enc P w base sp held t v d ps) :
    ∃ xs : List Int, xs.length = n ∧ v = arrV k xs ∧ ∀ z ∈ xs, (Lit.int k z).wf = true := by
  simp only [Value.okWide, ht] at hv
  obtain ⟨cs, rfl, hsz, _⟩ := hv
  obtain ⟨fuel, hf⟩ := h
  obtain ⟨ys, m, _, _, hl, hyl, hg⟩ := DataW.trod_array ht hf
  simp only [Value.cells] at hl hg
  have each : ∀ i, i < n → ∃ q, cs.toList[i]? = some (.int k q) ∧ (Lit.int k q).wf = true := by
    intro i hi
    have h1 := hg i hi
    rw [hc, Nat.mul_one] at h1
    have hx : ys[i]? = some (ys[i]'(by omega)) := List.getElem?_eq_getElem (by omega)
    rw [hx] at h1
    obtain ⟨q, hq, _, hw⟩ := DataW.trod_int he h1
    refine ⟨q, ?_, hw⟩
    rw [List.drop_eq_getElem_cons (by rw [hl, hct]; exact hi)] at hq
    simp only [List.take_succ_cons, List.take_zero, List.cons.injEq, and_true] at hq
    rw [List.getElem?_eq_getElem (by rw [hl, hct]; exact hi), hq]
  have hlen : cs.toList.length = n := by rw [hl, hct]
  refine ⟨cs.toList.map (fun v => match v with | .int _ q => q | _ => 0), by rw [List.length_map, hlen], ?_, fun z hz => ?_⟩
  · unfold arrV
    congr 1
    apply Array.toList_inj.1
    apply List.ext_getElem?
    intro i
    by_cases hi : i < n
    · obtain ⟨q, hq, _⟩ := each i hi
      simp only [List.map_map, List.getElem?_map, hq]
      rfl
    · rw [List.getElem?_eq_none (by omega), List.getElem?_eq_none (by simp; have := hlen; simp at this; omega)]
  · obtain ⟨v, hv, rfl⟩ := List.mem_map.1 hz
    obtain ⟨i, hi, rfl⟩ := List.mem_iff_getElem.1 hv
    obtain ⟨q, hq, hw⟩ := each i (by omega)
    rw [List.getElem?_eq_getElem hi] at hq
    injection hq with hq
    rw [hq]
    exact hw
end
end Go.Proofs.YtpnodocjpedcmaaDoor.Kit

namespace Go.Proofs.YtpnodocjpedcmaaDoor.Sec
open Go.ChangeShapes Go.WideShapes Go.ChangeAt Go.RowKit Go.Proofs.YtpnodocjpedcmaaDoor.Kit

def dCells (Ak : Option Addr) (ck : Nat) (Aw : Option Addr) (cw : Nat) (s : Dv) : Array Value :=
  #[.int .i64 s.size, .int .i64 s.count, .slice Ak s.kept.length ck, .slice Aw s.waits.length cw, .bool s.off, .int .i64 s.offs, .int .i64 s.fuse, .int .u64 s.wr]
/-- v is the document's device. -/
def RDv (w : World) (v : Value) (s : Dv) : Prop :=
  ∃ Ak ck Aw cw, v = .agg (dCells Ak ck Aw cw s) ∧ HoldsF w w.heap.size Ak s.kept ∧ HoldsF w w.heap.size Aw s.waits ∧ s.kept.length ≤ ck ∧ ck ≤ maxLen ∧ s.waits.length ≤ cw ∧ cw ≤ maxLen
theorem RDv.below {w w' : World} {v : Value} {s : Dv} (h : RDv w v s) (hb : Below w.heap.size w w') : RDv w' v s := by
  obtain ⟨Ak, ck, Aw, cw, e, h1, h2, r⟩ := h
  exact ⟨Ak, ck, Aw, cw, e, (h1.below hb).more hb.size, (h2.below hb).more hb.size, r⟩
def GivesD (s : Dv) (w : World) (e : Ending) (w' : World) : Prop := ∃ v, e = .returned v ∧ RDv w' v s ∧ Below w.heap.size w w'
def GivesED (E : Int) (s : Dv) (w : World) (e : Ending) (w' : World) : Prop := ∃ v, e = .returned (.tuple #[.int .i64 E, v]) ∧ RDv w' v s ∧ Below w.heap.size w w'

/-- A whole block is stored over. -/
theorem wpList_store_blk {P : Program} {w : World} {ops : Array Oper} {rest : List Oper} {o : Oper} {a : Act} {Q : Exit → Act → World → Prop} (hgd : o.guard = none) (ty : TypeId) (x y : Operand) (ho : o.op = .store ty x y)
    {g : Nat} {t : TypeId} {cs : Array Value} {ds : List Value} (h : Block w g t cs) (hx : a.eval x = .pointer (some ⟨g, 0, none⟩)) (hy : a.eval y = .agg ds.toArray) (hl : ds.length = cs.size) (hi : (P.info? ty).map (·.size) = some ds.length) (hone : ∀ u ∈ ds, u.oneCell' = true)
    (hK : ∀ w', Block w' g t ds.toArray → w.grownBy w' (some g) → wpList P ops Q rest (a.put o.dst undef) w') : wpList P ops Q (o :: rest) a w := by
  refine wpList_store_mid hgd ty x y ho g 0 ds.toArray hx hy ?_ (by simpa using hi) (all_oneCell_toArray hone) ?_
  · intro j hj
    have hj' : j < cs.size := by simpa [hl] using hj
    exact ⟨by rw [Nat.zero_add, h.cell, Array.getElem?_eq_getElem hj']; rfl, by rw [Nat.zero_add]; exact h.frozen j⟩
  · refine hK _ ?_ (setCells_grown g _ 0 w)
    have := setCells_block ds 0 w _ h (by omega)
    have e : (cs.toList.take 0 ++ (ds ++ cs.toList.drop (0 + ds.length))).toArray = ds.toArray := by
      rw [List.drop_of_length_le (by simp [hl])]
      simp
    rw [e] at this
    simpa using this

def zD : Array Value := #[.int .i64 0, .int .i64 0, .slice none 0 0, .slice none 0 0, .bool false, .int .i64 0, .int .i64 0, .int .u64 0]
theorem dCells_one (Ak : Option Addr) (ck : Nat) (Aw : Option Addr) (cw : Nat) (s : Dv) : ∀ u ∈ (dCells Ak ck Aw cw s).toList, u.oneCell' = true := by
  intro u hu
  unfold dCells at hu
  simp only [List.mem_cons, List.not_mem_nil, or_false] at hu
  rcases hu with rfl | rfl | rfl | rfl | rfl | rfl | rfl | rfl <;> rfl
/-- No cell is a text. -/
def NoText (cs : Array Value) : Prop := ∀ (i : Nat) (x : ByteArray), cs[i]? ≠ some (.string x)
theorem noText_list {cs : Array Value} (h : ∀ u ∈ cs.toList, ∀ x : ByteArray, u ≠ .string x) : NoText cs := fun i x e => h _ (List.mem_of_getElem? (by rw [← Array.getElem?_toList] at e; exact e)) x rfl
theorem dCells_noText (Ak : Option Addr) (ck : Nat) (Aw : Option Addr) (cw : Nat) (s : Dv) : NoText (dCells Ak ck Aw cw s) := noText_list (by
  intro u hu x
  unfold dCells at hu
  simp only [List.mem_cons, List.not_mem_nil, or_false] at hu
  rcases hu with rfl | rfl | rfl | rfl | rfl | rfl | rfl | rfl <;> exact fun e => by cases e)
theorem zD_noText : NoText zD := noText_list (by
  intro u hu x
  unfold zD at hu
  simp only [List.mem_cons, List.not_mem_nil, or_false] at hu
  rcases hu with rfl | rfl | rfl | rfl | rfl | rfl | rfl | rfl <;> exact fun e => by cases e)
/-- Rows of sectors stay while a block without texts turns. -/
theorem HoldsF.kept {w w' : World} {A : Option Addr} {l : Sl} {g : Nat} {t : TypeId} {cs : Array Value} (h : HoldsF w w.heap.size A l) (X : Block w g t cs) (hcs : NoText cs) (hg : w.grownBy w' (some g)) : HoldsF w' w'.heap.size A l := by
  intro hx
  obtain ⟨b, off, e, hb, hc⟩ := h hx
  have hne : b ≠ g := by
    rintro rfl
    have h1 := hc 0 (l[0]'hx) (List.getElem?_eq_getElem hx) 1 _ rfl
    rw [X.cell] at h1
    exact hcs _ _ h1
  refine ⟨b, off, e, Nat.lt_of_lt_of_le hb hg.size, fun j p hj i u hu => ?_⟩
  exact (World.cell?_of_block (w := w) (a := ⟨b, _, none⟩) (hg.block b hb (fun e => hne (Option.some.inj e)))).trans (hc j p hj i u hu)
theorem RDv.kept {w w' : World} {v : Value} {s : Dv} {g : Nat} {t : TypeId} {cs : Array Value} (h : RDv w v s) (X : Block w g t cs) (hcs : NoText cs) (hg : w.grownBy w' (some g)) : RDv w' v s := by
  obtain ⟨Ak, ck, Aw, cw, e, h1, h2, r⟩ := h
  exact ⟨Ak, ck, Aw, cw, e, h1.kept X hcs hg, h2.kept X hcs hg, r⟩
theorem block_two (w : World) (o : Obj) (t : TypeId) (cs : Array Value) : Block ((w.alloc o).alloc (.cells cs t)) (w.heap.size + 1) t cs := by
  have := Block.new (w.alloc o) t cs
  rwa [show (w.alloc o).heap.size = w.heap.size + 1 by simp] at this
theorem below_two (w : World) (o p : Obj) : Below w.heap.size w ((w.alloc o).alloc p) := ((Below.refl _ _).alloc (Nat.le_refl _) _).alloc (by simp) _

set_option maxRecDepth 100000 in
set_option maxHeartbeats 1600000 in
theorem rnew_any (size count : Nat) (w : World) :
    Calls Tryd.prog 11 #[.int .i64 size, .int .i64 count] w (GivesD (Dv.new size count) w) := by
  go_enter Tryd.func11, Tryd.ntmps11
  go_wp2
  exact bodyPost_ret (v := .agg (dCells none 0 none 0 (Dv.new size count))) (results_cell_row rfl _ _ w.heap.size 31 _ (0, 0) _ rfl (Block.new w _ _) Tryd.underlying31 rfl (by kernel_rfl)) rfl
    ⟨_, rfl, ⟨none, 0, none, 0, rfl, HoldsF.nil, HoldsF.nil, Nat.le_refl _, Nat.zero_le _, Nat.le_refl _, Nat.zero_le _⟩, (Below.refl _ _).alloc (Nat.le_refl _) _⟩

set_option maxRecDepth 100000 in
set_option maxHeartbeats 1600000 in
theorem rfall_any (v : Value) (s : Dv) (w : World) (h : RDv w v s) (hb : 0 ≤ s.offs ∧ s.offs ≤ 1000000000) :
    Calls Tryd.prog 45 #[v] w (GivesD s.down w) := by
  obtain ⟨Ak, ck, Aw, cw, rfl, hk, hw, r⟩ := h
  have hB := fun o p => below_two w o p
  have HG := Lib.hid (fun (cs : Array Value) (o p : Obj) => (⟨(hk.below (hB o p)).more (hB o p).size, (hw.below (hB o p)).more (hB o p).size⟩ : _ ∧ _))
  have HR := Lib.hid r
  clear hB hk hw r
  unfold dCells Dv.down
  cases hoff : s.off with
  | true =>
    go_enter Tryd.func45, Tryd.ntmps45
    go_wp2
    refine bodyPost_ret (v := .agg (dCells Ak ck Aw cw { s with off := true })) (results_cell_row rfl _ _ (w.heap.size + 1) 31 _ (0, 0) _ rfl (block_two w _ _ _) Tryd.underlying31 rfl (by kernel_rfl)) rfl
      ⟨_, rfl, ⟨Ak, ck, Aw, cw, ?_, (HG.out #[] _ _).1, (HG.out #[] _ _).2, HR.out⟩, below_two w _ _⟩
    unfold dCells
    rw [hoff]
  | false =>
    go_enter Tryd.func45, Tryd.ntmps45
    go_wp2
    exact bodyPost_ret (v := .agg (dCells Ak ck Aw cw { s with off := true, offs := s.offs + 1 })) (results_cell_row rfl _ _ (w.heap.size + 1) 31 _ (0, 0) _ rfl (block_two w _ _ _) Tryd.underlying31 rfl (by kernel_rfl)) rfl
      ⟨_, rfl, ⟨Ak, ck, Aw, cw, rfl, (HG.out #[] _ _).1, (HG.out #[] _ _).2, HR.out⟩, below_two w _ _⟩

end Go.Proofs.YtpnodocjpedcmaaDoor.Sec

namespace Go.Proofs.YtpnodocjpedcmaaDoor.Sec
open Go.ChangeShapes Go.WideShapes Go.ChangeAt Go.RowKit Go.Proofs.YtpnodocjpedcmaaDoor.Kit

theorem find_no {A : Option Addr} {l : Sl} {c : Nat} {k : Int} {w : World} (hl : l.length ≤ 1000000000) (hr : HoldsF w w.heap.size A l) (hg : getS l k = none) :
    Calls Tryd.prog 80 #[.slice A l.length c, .int .i64 k] w fun e w' => e = .returned (.int .i64 (-1)) ∧ w = w' :=
  (find_any A l c k w hl hr).mono fun e w' ⟨h1, h2⟩ => by
    rw [hg] at h2
    exact ⟨h2, h1⟩
def FoundAt (l : Sl) (k : Int) (o : Option (List Int)) (w : World) (e : Ending) (w' : World) : Prop := ∃ i : Nat, l[i]? = some (k, o) ∧ e = .returned (.int .i64 i) ∧ w = w'
theorem find_yes {A : Option Addr} {l : Sl} {c : Nat} {k : Int} {o : Option (List Int)} {w : World} (hl : l.length ≤ 1000000000) (hr : HoldsF w w.heap.size A l) (hg : getS l k = some o) :
    Calls Tryd.prog 80 #[.slice A l.length c, .int .i64 k] w (FoundAt l k o w) :=
  (find_any A l c k w hl hr).mono fun e w' ⟨h1, h2⟩ => by
    rw [hg] at h2
    obtain ⟨i, h3, h4⟩ := h2
    exact ⟨i, h3, h4, h1⟩

def GivesS (zs : List Int) (E : Int) (w : World) (e : Ending) (w' : World) : Prop := e = .returned (.tuple #[.string (strOfNums zs), .int .i64 E]) ∧ Below w.heap.size w w'
theorem pos_of_get {l : Sl} {k : Int} {o : Option (List Int)} (h : getS l k = some o) : 0 < l.length := List.length_pos_of_mem (mem_getS h)
theorem str_nil : strOfNums [] = ⟨#[]⟩ := rfl
theorem len_few {n : Nat} (h : n < 1000000000) : n ≤ 1000000000 := by omega

set_option maxRecDepth 100000 in
set_option maxHeartbeats 6400000 in
theorem rread_any (v : Value) (s : Dv) (i : Int) (w : World) (h : RDv w v s) (hok : s.Ok) :
    Calls Tryd.prog 51 #[v, .int .i64 i] w (GivesS (s.read i).1 (s.read i).2 w) := by
  obtain ⟨Ak, ck, Aw, cw, rfl, hk, hw, r⟩ := h
  have hs2 := hok.s2
  have hwf := len_few (waits_few hok)
  have hkf := len_few (kept_few hok)
  have hwn := Lib.hid hok.wn
  have B1 := Lib.hid (fun o => (Below.refl w.heap.size w).alloc (Nat.le_refl _) o)
  have HS := Lib.hid str_nil
  unfold dCells Dv.read
  clear r
  cases hoff : s.off with
  | true =>
    rw [if_pos rfl]
    go_enter Tryd.func51, Tryd.ntmps51
    go_wp2_with fail
    go_ret2
    exact ⟨by rw [HS.out]; rfl, B1.out _⟩
  | false =>
    rw [if_neg (by decide)]
    by_cases hlo : i < 0
    · rw [if_pos (Or.inl hlo)]
      have d1 : decide (i < 0) = true := decide_eq_true hlo
      go_enter Tryd.func51, Tryd.ntmps51
      go_wp2_with fail
      go_ret2
      exact ⟨by rw [HS.out]; rfl, B1.out _⟩
    · have d1 : decide (i < 0) = false := decide_eq_false hlo
      by_cases hhi : (s.count : Int) ≤ i
      · rw [if_pos (Or.inr hhi)]
        have d2 : decide ((s.count : Int) ≤ i) = true := decide_eq_true hhi
        go_enter Tryd.func51, Tryd.ntmps51
        go_wp2_with fail
        go_ret2
        exact ⟨by rw [HS.out]; rfl, B1.out _⟩
      · have d2 : decide ((s.count : Int) ≤ i) = false := decide_eq_false hhi
        rw [if_neg (by omega)]
        -- the walk of a place that is there
        have hz := Lib.hid (fun o => show (w.alloc o).heap.size = w.heap.size + 1 by simp)
        have X1 := Lib.hid (Block.new w 31 #[.int .i64 s.size, .int .i64 s.count, .slice Ak s.kept.length ck, .slice Aw s.waits.length cw, .bool false, .int .i64 s.offs, .int .i64 s.fuse, .int .u64 s.wr])
        obtain ⟨Z, hZ⟩ : ∃ Z, strOfNums (List.replicate s.size 0) = Z := ⟨_, rfl⟩
        have HZ := Lib.hid hZ
        clear hlo hhi hoff
        cases hgw : getS s.waits i with
        | some o =>
          cases o with
          | none => exact absurd rfl (hwn.out _ (mem_getS hgw))
          | some xs =>
            cases hgk : getS s.kept i with
            | some o2 =>
              obtain ⟨bw, ow, rfl, hbw, hcw⟩ := hw (pos_of_get hgw)
              have hw : HoldsF w w.heap.size (some ⟨bw, ow, none⟩) s.waits := fun _ => ⟨bw, ow, rfl, hbw, hcw⟩
              obtain ⟨bk, ok, rfl, hbk, hck⟩ := hk (pos_of_get hgk)
              have hk : HoldsF w w.heap.size (some ⟨bk, ok, none⟩) s.kept := fun _ => ⟨bk, ok, rfl, hbk, hck⟩
              have GW := Lib.hid (fun W (hB : Below w.heap.size w W) => find_yes (c := cw) hwf ((hw.below hB).more hB.size) hgw)
              have GK := Lib.hid (fun W (hB : Below w.heap.size w W) => find_yes (c := ck) hkf ((hk.below hB).more hB.size) hgk)
              have HCW := Lib.hid (fun W (hB : Below w.heap.size w W) j q (hj : s.waits[j]? = some q) => (fun i u hu => (hB.cell (p := ⟨bw, _, none⟩) hbw).trans (hcw j q hj i u hu) : W.rangeAt bw (ow + j * 3) (cellsF q)))
              have HCK := Lib.hid (fun W (hB : Below w.heap.size w W) j q (hj : s.kept[j]? = some q) => (fun i u hu => (hB.cell (p := ⟨bk, _, none⟩) hbk).trans (hck j q hj i u hu) : W.rangeAt bk (ok + j * 3) (cellsF q)))
              clear hw hk hgw hgk hcw hbw hck hbk
              go_enter Tryd.func51, Tryd.ntmps51
              go_wp2_with (first
                | (refine wpList_make_ints _ rfl _ _ _ rfl elem8 s.size s.size rfl rfl rfl rfl (Nat.le_refl _) (by omega) ?_; intro w5 own5 hb5 hl5; obtain ⟨A5, c5, he5, _, _, hh5⟩ := own5.opened; have kc := conv_bytes (P := Tryd.prog) Tryd.underlying22 Tryd.underlying5 Tryd.underlying9 w5 A5 (List.replicate s.size 0) c5 _ hh5; rw [← he5, hZ, hz.out] at kc; clear he5 hh5 own5; have B5 := (B1.out _).trans (hb5.mono (by simp)); have X6 := (X1.out.below hb5 (by simp)).alloc (.cells #[.int .i64 0, .string Z, .bool false] 95); have y2 := X6.cell 2; have y3 := X6.cell 3; have B6 := B5.alloc B5.size (.cells #[.int .i64 0, .string Z, .bool false] 95); clear X6 hb5)
                | (go_at_call 80; (with_reducible refine (GW.out _ B6).mono ?_); rintro e w7 ⟨jw, hjw, rfl, rfl⟩; have hjl := (List.getElem?_eq_some_iff.1 hjw).1; have ldw := HCW.out _ B6 jw _ hjw; clear hjw)
                | (go_at_call 80; (with_reducible refine (GK.out _ B6).mono ?_); rintro e w7 ⟨jk, hjk, rfl, rfl⟩; have hkl := (List.getElem?_eq_some_iff.1 hjk).1; have ldk := HCK.out _ B6 jk _ hjk; clear hjk)
                | (have _t := ldw; refine wpList_load_midV (by rfl) _ _ rfl bw (ow + jw * 3) rfl [.int .i64 i, .string (strB (some xs)), .bool false] ldw Tryd.underlying95 rfl (by rfl) ?_))
              go_ret2
              exact ⟨rfl, B5.alloc B5.size _⟩
            | none =>
              obtain ⟨bw, ow, rfl, hbw, hcw⟩ := hw (pos_of_get hgw)
              have hw : HoldsF w w.heap.size (some ⟨bw, ow, none⟩) s.waits := fun _ => ⟨bw, ow, rfl, hbw, hcw⟩
              have GW := Lib.hid (fun W (hB : Below w.heap.size w W) => find_yes (c := cw) hwf ((hw.below hB).more hB.size) hgw)
              have GK := Lib.hid (fun W (hB : Below w.heap.size w W) => find_no (c := ck) hkf ((hk.below hB).more hB.size) hgk)
              have HCW := Lib.hid (fun W (hB : Below w.heap.size w W) j q (hj : s.waits[j]? = some q) => (fun i u hu => (hB.cell (p := ⟨bw, _, none⟩) hbw).trans (hcw j q hj i u hu) : W.rangeAt bw (ow + j * 3) (cellsF q)))
              clear hw hk hgw hgk hcw hbw
              go_enter Tryd.func51, Tryd.ntmps51
              go_wp2_with (first
                | (refine wpList_make_ints _ rfl _ _ _ rfl elem8 s.size s.size rfl rfl rfl rfl (Nat.le_refl _) (by omega) ?_; intro w5 own5 hb5 hl5; obtain ⟨A5, c5, he5, _, _, hh5⟩ := own5.opened; have kc := conv_bytes (P := Tryd.prog) Tryd.underlying22 Tryd.underlying5 Tryd.underlying9 w5 A5 (List.replicate s.size 0) c5 _ hh5; rw [← he5, hZ, hz.out] at kc; clear he5 hh5 own5; have B5 := (B1.out _).trans (hb5.mono (by simp)); have X6 := (X1.out.below hb5 (by simp)).alloc (.cells #[.int .i64 0, .string Z, .bool false] 95); have y2 := X6.cell 2; have y3 := X6.cell 3; have B6 := B5.alloc B5.size (.cells #[.int .i64 0, .string Z, .bool false] 95); clear X6 hb5)
                | (go_at_call 80; (with_reducible refine (GW.out _ B6).mono ?_); rintro e w7 ⟨jw, hjw, rfl, rfl⟩; have hjl := (List.getElem?_eq_some_iff.1 hjw).1; have ldw := HCW.out _ B6 jw _ hjw; clear hjw)
                | (go_at_call 80; (with_reducible refine (GK.out _ B6).mono ?_); rintro e w7 ⟨rfl, rfl⟩)
                | (have _t := ldw; refine wpList_load_midV (by rfl) _ _ rfl bw (ow + jw * 3) rfl [.int .i64 i, .string (strB (some xs)), .bool false] ldw Tryd.underlying95 rfl (by rfl) ?_))
              go_ret2
              exact ⟨rfl, B5.alloc B5.size _⟩
        | none =>
          cases hgk : getS s.kept i with
          | none =>
            have GW := Lib.hid (fun W (hB : Below w.heap.size w W) => find_no (c := cw) hwf ((hw.below hB).more hB.size) hgw)
            have GK := Lib.hid (fun W (hB : Below w.heap.size w W) => find_no (c := ck) hkf ((hk.below hB).more hB.size) hgk)
            clear hw hk hgw hgk
            go_enter Tryd.func51, Tryd.ntmps51
            go_wp2_with (first
              | (refine wpList_make_ints _ rfl _ _ _ rfl elem8 s.size s.size rfl rfl rfl rfl (Nat.le_refl _) (by omega) ?_; intro w5 own5 hb5 hl5; obtain ⟨A5, c5, he5, _, _, hh5⟩ := own5.opened; have kc := conv_bytes (P := Tryd.prog) Tryd.underlying22 Tryd.underlying5 Tryd.underlying9 w5 A5 (List.replicate s.size 0) c5 _ hh5; rw [← he5, hZ, hz.out] at kc; clear he5 hh5 own5; have B5 := (B1.out _).trans (hb5.mono (by simp)); have X6 := (X1.out.below hb5 (by simp)).alloc (.cells #[.int .i64 0, .string Z, .bool false] 95); have y2 := X6.cell 2; have y3 := X6.cell 3; have B6 := B5.alloc B5.size (.cells #[.int .i64 0, .string Z, .bool false] 95); clear X6 hb5)
              | (go_at_call 80; (with_reducible refine (GW.out _ B6).mono ?_); rintro e w7 ⟨rfl, rfl⟩)
              | (go_at_call 80; (with_reducible refine (GK.out _ B6).mono ?_); rintro e w7 ⟨rfl, rfl⟩))
            go_ret2
            exact ⟨by rw [HZ.out]; rfl, B6⟩
          | some o =>
            cases o with
            | none =>
              obtain ⟨bk, ok, rfl, hbk, hck⟩ := hk (pos_of_get hgk)
              have hk : HoldsF w w.heap.size (some ⟨bk, ok, none⟩) s.kept := fun _ => ⟨bk, ok, rfl, hbk, hck⟩
              have GW := Lib.hid (fun W (hB : Below w.heap.size w W) => find_no (c := cw) hwf ((hw.below hB).more hB.size) hgw)
              have GK := Lib.hid (fun W (hB : Below w.heap.size w W) => find_yes (c := ck) hkf ((hk.below hB).more hB.size) hgk)
              have HCK := Lib.hid (fun W (hB : Below w.heap.size w W) j q (hj : s.kept[j]? = some q) => (fun i u hu => (hB.cell (p := ⟨bk, _, none⟩) hbk).trans (hck j q hj i u hu) : W.rangeAt bk (ok + j * 3) (cellsF q)))
              clear hw hk hgw hgk hck hbk
              go_enter Tryd.func51, Tryd.ntmps51
              go_wp2_with (first
                | (refine wpList_make_ints _ rfl _ _ _ rfl elem8 s.size s.size rfl rfl rfl rfl (Nat.le_refl _) (by omega) ?_; intro w5 own5 hb5 hl5; obtain ⟨A5, c5, he5, _, _, hh5⟩ := own5.opened; have kc := conv_bytes (P := Tryd.prog) Tryd.underlying22 Tryd.underlying5 Tryd.underlying9 w5 A5 (List.replicate s.size 0) c5 _ hh5; rw [← he5, hZ, hz.out] at kc; clear he5 hh5 own5; have B5 := (B1.out _).trans (hb5.mono (by simp)); have X6 := (X1.out.below hb5 (by simp)).alloc (.cells #[.int .i64 0, .string Z, .bool false] 95); have y2 := X6.cell 2; have y3 := X6.cell 3; have B6 := B5.alloc B5.size (.cells #[.int .i64 0, .string Z, .bool false] 95); clear X6 hb5)
                | (go_at_call 80; (with_reducible refine (GW.out _ B6).mono ?_); rintro e w7 ⟨rfl, rfl⟩)
                | (go_at_call 80; (with_reducible refine (GK.out _ B6).mono ?_); rintro e w7 ⟨jk, hjk, rfl, rfl⟩; have hkl := (List.getElem?_eq_some_iff.1 hjk).1; have ldk := HCK.out _ B6 jk _ hjk; clear hjk)
                | (have _t := ldk; refine wpList_load_midV (by rfl) _ _ rfl bk (ok + jk * 3) rfl [.int .i64 i, .string (strB none), .bool true] ldk Tryd.underlying95 rfl (by rfl) ?_))
              go_ret2
              exact ⟨by rw [HS.out]; rfl, B5.alloc B5.size _⟩
            | some xs =>
              obtain ⟨bk, ok, rfl, hbk, hck⟩ := hk (pos_of_get hgk)
              have hk : HoldsF w w.heap.size (some ⟨bk, ok, none⟩) s.kept := fun _ => ⟨bk, ok, rfl, hbk, hck⟩
              have GW := Lib.hid (fun W (hB : Below w.heap.size w W) => find_no (c := cw) hwf ((hw.below hB).more hB.size) hgw)
              have GK := Lib.hid (fun W (hB : Below w.heap.size w W) => find_yes (c := ck) hkf ((hk.below hB).more hB.size) hgk)
              have HCK := Lib.hid (fun W (hB : Below w.heap.size w W) j q (hj : s.kept[j]? = some q) => (fun i u hu => (hB.cell (p := ⟨bk, _, none⟩) hbk).trans (hck j q hj i u hu) : W.rangeAt bk (ok + j * 3) (cellsF q)))
              clear hw hk hgw hgk hck hbk
              go_enter Tryd.func51, Tryd.ntmps51
              go_wp2_with (first
                | (refine wpList_make_ints _ rfl _ _ _ rfl elem8 s.size s.size rfl rfl rfl rfl (Nat.le_refl _) (by omega) ?_; intro w5 own5 hb5 hl5; obtain ⟨A5, c5, he5, _, _, hh5⟩ := own5.opened; have kc := conv_bytes (P := Tryd.prog) Tryd.underlying22 Tryd.underlying5 Tryd.underlying9 w5 A5 (List.replicate s.size 0) c5 _ hh5; rw [← he5, hZ, hz.out] at kc; clear he5 hh5 own5; have B5 := (B1.out _).trans (hb5.mono (by simp)); have X6 := (X1.out.below hb5 (by simp)).alloc (.cells #[.int .i64 0, .string Z, .bool false] 95); have y2 := X6.cell 2; have y3 := X6.cell 3; have B6 := B5.alloc B5.size (.cells #[.int .i64 0, .string Z, .bool false] 95); clear X6 hb5)
                | (go_at_call 80; (with_reducible refine (GW.out _ B6).mono ?_); rintro e w7 ⟨rfl, rfl⟩)
                | (go_at_call 80; (with_reducible refine (GK.out _ B6).mono ?_); rintro e w7 ⟨jk, hjk, rfl, rfl⟩; have hkl := (List.getElem?_eq_some_iff.1 hjk).1; have ldk := HCK.out _ B6 jk _ hjk; clear hjk)
                | (have _t := ldk; refine wpList_load_midV (by rfl) _ _ rfl bk (ok + jk * 3) rfl [.int .i64 i, .string (strB (some xs)), .bool false] ldk Tryd.underlying95 rfl (by rfl) ?_))
              go_ret2
              exact ⟨rfl, B5.alloc B5.size _⟩
end Go.Proofs.YtpnodocjpedcmaaDoor.Sec

namespace Go.Proofs.YtpnodocjpedcmaaDoor.Kit
open Go.ChangeShapes Go.WideShapes Go.ChangeAt Go.RowKit

theorem wp_exits {P : Program} {o : Oper} {a : Act} {w : World} {K : Act → World → Prop} {Q Q' : Exit → Act → World → Prop} (h : ∀ e a w, Q e a w → Q' e a w) (hh : o.wp P a w K Q) : o.wp P a w K Q' := by
  unfold Oper.wp at *
  generalize (execOp a.eval o).run P w = r at *
  cases r with
  | ok n w' =>
    cases n <;> simp only [Oper.upon] at hh ⊢ <;>
      first
        | exact hh
        | exact Calls.mono hh (fun e w'' he => by
            cases e with
            | returned v => exact he
            | panicked c => exact h _ _ _ he
            | outgrown => obtain ⟨a, w, he⟩ := he; exact ⟨a, w, h _ _ _ he⟩)
  | halt x w' => cases x <;> simp only [Oper.upon] at hh ⊢ <;> first | exact hh | exact h _ _ _ hh

/-- K behind the operation, Q at a panic, and never out of room. -/
def Behind (K : Act → World → Prop) (Q : Exit → Act → World → Prop) : Exit → Act → World → Prop
  | .normal, a, w => K a w
  | .outgrown, _, _ => False
  | e, a, w => Q e a w

theorem step_of_list {P : Program} {ops : Array Oper} {o : Oper} {a : Act} {w : World} {K : Act → World → Prop} {Q : Exit → Act → World → Prop} {E : Prop}
    (hw : Region.wanted o (yielded ops a.tmps) = true) (h : ∀ Q', (∀ a w, K a w → wpList P ops Q' [] a w) → wpList P ops Q' [o] a w) :
    if Region.wanted o (yielded ops a.tmps) = true then Oper.wp P o a w K Q else E := by
  rw [if_pos hw]
  have h1 := h (Behind K Q) (fun _ _ h => h)
  unfold wpList at h1
  rw [if_pos hw] at h1
  rcases h1 with h1 | ⟨_, a', w', h2⟩
  · unfold Oper.wp at *
    generalize (execOp a.eval o).run P w = r at *
    cases r with
    | ok n w' =>
      cases n <;> simp only [Oper.upon] at h1 ⊢ <;>
        first
          | exact h1
          | exact Calls.mono h1 (fun e w'' he => by
              cases e with
              | returned v => exact he
              | panicked c => exact he
              | outgrown => obtain ⟨_, _, he⟩ := he; exact (he : False).elim)
    | halt x w' => cases x <;> simp only [Oper.upon] at h1 ⊢ <;> exact h1
  · exact (h2 : False).elim
end Go.Proofs.YtpnodocjpedcmaaDoor.Kit

namespace Go.Proofs.YtpnodocjpedcmaaDoor.Pt
open Go.ChangeShapes Go.WideShapes Go.ChangeAt Go.RowKit Go.Proofs.YtpnodocjpedcmaaDoor.Kit Go.Proofs.YtpnodocjpedcmaaDoor.Sec

/-- Is a region there? -/
def IsThere (n : Int) (F C : Int) : Prop := 0 ≤ F ∧ 1 ≤ C ∧ C ≤ n ∧ F ≤ n - C
instance (n F C : Int) : Decidable (IsThere n F C) := by unfold IsThere; infer_instance

set_option maxRecDepth 100000 in
set_option maxHeartbeats 3200000 in
theorem open_any (I : Nat → Prop) (a mk mw : Nat) (F C : Int) (s : Dv) (w : World) (h : DvAt w I a mk mw s) (hF : -9223372036854775808 ≤ F ∧ F ≤ 9223372036854775807) (hC : -9223372036854775808 ≤ C ∧ C ≤ 9223372036854775807) :
    Calls Tryd.prog 48 #[.pointer (some ⟨a, 0, none⟩), .agg #[.int .i64 F, .int .i64 C]] w fun e w' => Below w.heap.size w w' ∧
      (IsThere s.count F C → ∃ p, w.heap.size ≤ p ∧ e = .returned (.tuple #[.pointer (some ⟨p, 0, none⟩), .int .i64 0]) ∧ PartAt w' p a F C) ∧ (¬ IsThere s.count F C → e = .returned (.tuple #[.pointer none, .int .i64 1])) := by
  have B0 : Below w.heap.size w (w.alloc (.cells #[.int .i64 F, .int .i64 C] 42)) := (Below.refl _ _).alloc (Nat.le_refl _) _
  have HD : Hid (∀ n, DvAt ((w.alloc (.cells #[.int .i64 F, .int .i64 C] 42)).drewN n) I a mk mw s) := Lib.hid (fun n => (h.below B0).below (below_draws (Below.refl _ _) n))
  have HB : Hid (∀ n, Below w.heap.size w ((w.alloc (.cells #[.int .i64 F, .int .i64 C] 42)).drewN n)) := Lib.hid (fun n => below_draws B0 n)
  have hc1 := h.ok.c1
  have hc2 := h.ok.c2
  unfold IsThere
  clear h B0
  cases h1 : decide (F < 0) <;> (try cases h2 : decide (C < 1)) <;> (try cases h3 : decide ((s.count : Int) < C)) <;> (try cases h4 : decide ((s.count : Int) - C < F))
  case false.false.false.false =>
    have hyes : Hid (0 ≤ F ∧ 1 ≤ C ∧ C ≤ (s.count : Int) ∧ F ≤ (s.count : Int) - C) := Lib.hid (by simp only [decide_eq_false_iff_not] at h1 h2 h3 h4; omega)
    have k2 : 1 ≤ C := by simp only [decide_eq_false_iff_not] at h2; omega
    have k3 : C ≤ (s.count : Int) := by simp only [decide_eq_false_iff_not] at h3; omega
    go_enter Tryd.func48, Tryd.ntmps48
    go_wp2_with fail
    go_quiet ((go_at_call 58; exact Calls.quiet_of_same ((count_any I a mk mw s _ (HD.out _)).mono fun _ _ h => ⟨h.1, h.2.symm⟩)))
    go_wp2_with fail
    go_ret2
    have hb := HB.out nq
    have hz : ((w.alloc (.cells #[.int .i64 F, .int .i64 C] 42)).drewN nq).heap.size = w.heap.size + 1 := by simp [World.drewN]
    refine ⟨hb.alloc hb.size _, fun _ => ⟨w.heap.size + 1, by omega, rfl, ?_⟩, fun h => absurd hyes.out h⟩
    have := Block.new ((w.alloc (.cells #[.int .i64 F, .int .i64 C] 42)).drewN nq) 139 #[.pointer (some ⟨a, 0, none⟩), .int .i64 F, .int .i64 C]
    rw [hz] at this
    exact this
  case false.false.false.true =>
    have hno : Hid (¬ (0 ≤ F ∧ 1 ≤ C ∧ C ≤ (s.count : Int) ∧ F ≤ (s.count : Int) - C)) := Lib.hid (by simp only [decide_eq_false_iff_not, decide_eq_true_eq] at *; omega)
    have k2 : 1 ≤ C := by simp only [decide_eq_false_iff_not] at h2; omega
    have k3 : C ≤ (s.count : Int) := by simp only [decide_eq_false_iff_not] at h3; omega
    go_enter Tryd.func48, Tryd.ntmps48
    go_wp2_with fail
    go_quiet ((go_at_call 58; exact Calls.quiet_of_same ((count_any I a mk mw s _ (HD.out _)).mono fun _ _ h => ⟨h.1, h.2.symm⟩)))
    go_wp2_with fail
    go_ret2
    exact ⟨HB.out nq, fun h => absurd h hno.out, fun _ => rfl⟩
  all_goals
    have hno : Hid (¬ (0 ≤ F ∧ 1 ≤ C ∧ C ≤ (s.count : Int) ∧ F ≤ (s.count : Int) - C)) := Lib.hid (by simp only [decide_eq_false_iff_not, decide_eq_true_eq] at *; omega)
    go_enter Tryd.func48, Tryd.ntmps48
    go_wp2_with fail
    go_quiet ((go_at_call 58; exact Calls.quiet_of_same ((count_any I a mk mw s _ (HD.out _)).mono fun _ _ h => ⟨h.1, h.2.symm⟩)))
    go_wp2_with fail
    go_ret2
    exact ⟨HB.out nq, fun h => absurd h hno.out, fun _ => rfl⟩
end Go.Proofs.YtpnodocjpedcmaaDoor.Pt

namespace Go.Proofs.YtpnodocjpedcmaaDoor.Pt
open Go.ChangeShapes Go.WideShapes Go.ChangeAt Go.RowKit Go.Proofs.YtpnodocjpedcmaaDoor.Kit Go.Proofs.YtpnodocjpedcmaaDoor.Sec

end Go.Proofs.YtpnodocjpedcmaaDoor.Pt
