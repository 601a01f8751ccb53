/-
  Own words for every seat: how a law that leaves all old memory alone becomes its row, and how a slice of one-cell integers is read. Conditions: none beyond what each theorem names.
  Own words for rows of integers that a call makes itself: what is owned, what append, make and copy leave. No program. No conditions beyond what each theorem names.
  Own words: a world that has turned in some blocks alone (and has new ones). No program. No conditions beyond what each theorem names.
  Layer 6, sector: what is kept of sectors, as a list and as a map in memory. Conditions: as each theorem names.
  Layer 6, sector: maps of sectors and a device, in memory. Conditions: as each theorem names.
  Layer 6, sector: a device in memory; its small methods: contracts. Conditions: as each theorem names.
  Layer 6, sector: Fuse, Off, blows: contracts. Conditions: as each theorem names.
  Layer 6, sector: Clone, New, Read: contracts. Conditions: as each theorem names.
  Layer 6, sector: Read: contract. Conditions: as each theorem names.
  Layer 6, sector: lists of sectors, plain. Conditions: as each theorem names.
  Own words: a row of bytes read as a string; a step that kept rows apart. No program. No conditions beyond what each theorem names.
  Layer 7, part: contracts of the layouts' functions. Conditions: as each theorem names.
  Layer 7, part: whether a layout may be, and its map: contracts. Conditions: as each theorem names.
  Layer 7, part: the document's functions on layouts, and Layout: contracts. Conditions: as each theorem names.
  Layer 7, part: maps of layouts: contracts. Conditions: as each theorem names.
  Own words: each law at the head of a list of operations serves as a step of a region that draws its order. No program. No conditions beyond what each theorem names.
  Layer 7, part: a map is equal to itself; the document's example. Conditions: as each theorem names.
  Layer 7, part: what a nil part answers, and a part of a nil device. Conditions: none.
  Own words for arrays of integers: in a block of their own, by value, compared. No program. No conditions beyond what each theorem names.
  Own words: whole arrays of integers stored and loaded, as steps of a region that draws its order. No program. No conditions beyond what each theorem names.
  Own words for structs of integers, by value and in slices that came in. No program. No conditions beyond what each theorem names.
  Own words for a struct parameter of three integers and a slice of bytes. No program. No conditions beyond what each theorem names.
  Own words for slices of elements of any shape that came in. No program. No conditions beyond what each theorem names.
  Own words for slices of rows of bytes that came in, or that a call lays itself. No program. No conditions beyond what each theorem names.
  Own words: rows of bytes that a call lays itself in a new block. No program. No conditions beyond what each theorem names.
  Own words: rows that stay where something new is laid and filled; a row's first numbers; rows that grow in a world that only adds. No program. No conditions beyond what each theorem names.
  Own words: texts of bytes, cut and joined. No program. No conditions beyond what each theorem names.
  Layer 6, the document's sectors: rows of them; find: contracts. Conditions: as each theorem names.
  Layer 1, sha: bits moved round the end: both functions, one answer. Conditions: as each theorem names.
  Layer 1, sha: two ways to choose bits, one answer; the words of a block and the rounds, as plain functions. No program. No conditions beyond what each theorem names.
  Layer 1, sha: the words of a block, the rounds, the state behind bytes: plain words. No program. No conditions beyond what each theorem names.
  Layer 1, sha: the state behind bytes, the sum: plain words; what a hash's block has. No program but its types. No conditions beyond what each theorem names.
  Own words for rows of values of one cell each (slices, strings) that a call makes itself: append, and rows of bytes among them. No program. No conditions beyond what each theorem names.
  Layer 2, octet: the plain arithmetic. No program. No conditions beyond what each theorem names.
  Layer 2, octet: contracts of the program's and the document's functions. Conditions: as each theorem names.
  Own words: append of one integer, as one step of a plain region, with all that a caller wants to know. No program. No conditions beyond what each theorem names.
  Own words: two rows of bytes that read as one string are the same. No program. No conditions beyond what each theorem names.
-/
import Derived.Below
import Derived.Carry
import Derived.WalkKit
import Derived.ProofKit
import Derived.OpenShut
import Derived.Lib.Hide
import Derived.Deep.Draws
import Derived.Maps.AppendAt
import Derived.Deep.AppendLies
import Derived.Laws.CopyOwn
import Derived.Laws.MakeOwn
import Derived.OwnWalk
import Derived.RegionTactic
import Derived.Maps.OwnSet
import Derived.Test.YtpnodocjpedcmaaDoorRows
import Derived.Deep.QuietTactic
import Derived.BigQuiet
import Derived.Lib.SliceRun
import Derived.Laws.BytesArg
import Derived.Deep.RegionHeld3
import Derived.Deep.DeepCutAuto
import Derived.Lib.QuietBelow
import Derived.Laws.ResultCell
import Derived.Deep.RegionHeld
import Derived.Laws.StructEq
import Derived.ChangeKeysEq
import Derived.Deep.MidRow
import Derived.DataReads
import Derived.ChangeArms
import Derived.LoopTactic
import Derived.Laws.BitsAllLaws
namespace Go.Proofs.YtpnodocjpedcmaaDoor.Kit
open Go.ChangeShapes Go.WideShapes Go.ChangeAt Go.RowKit

section
variable {H : Type} {enc : TypeId × Value → H} {P : Program}

theorem trodAll_below (hl : laidOutB P = true) {W W' : World} (hb : Below W.heap.size W W') :
    ∀ {ts : List TypeId} {vs : List Value} {ds : List (DataW H)} {ps : List MemPlace}, ts.all (fun t => P.readableRec t && decide (t < P.types.size)) = true →
      DataW.TrodAll enc P W 0 (fun _ => true) true ts vs ds ps → (∀ x ∈ ps, x.block < W.heap.size) → DataW.TrodAll enc P W' 0 (fun b => decide (b < W.heap.size)) true ts vs ds ps
  | [], [], [], _, _, h, _ => h
  | [], _ :: _, _, _, _, h, _ => h.elim
  | [], [], _ :: _, _, _, h, _ => h.elim
  | _ :: _, [], _, _, _, h, _ => h.elim
  | _ :: _, _ :: _, [], _, _, h, _ => h.elim
  | t :: ts, v :: vs, d :: ds, ps, hr, h, hlt => by
    obtain ⟨p, q, h1, h2, rfl⟩ := h
    simp only [List.all_cons, Bool.and_eq_true, decide_eq_true_eq] at hr
    exact ⟨p, q, Below.trod hl hr.1.1 hr.1.2 h1 hb (fun x hx => hlt x (by simp [hx])), trodAll_below hl hb (by simpa using hr.2) h2 (fun x hx => hlt x (by simp [hx])), rfl⟩

/-- A law's end: it answered true, and nothing that was there before has turned. -/
theorem law_post {f : Func} {s : ChangeSpec} {apart fresh handsOn : Bool} {W W' : World} {args : Array Value} {ds gs : List (DataW H)} {before : List MemPlace} {tb : TypeId}
    (hl : laidOutB P = true) (hr : f.params.toList.all (fun t => P.readableRec t && decide (t < P.types.size)) = true)
    (hW : DataW.Whole enc P f.params.toList s.vars apart W args.toList ds gs before) (hv : s.vars = [])
    (hres : f.resultTypes = #[tb]) (htb : P.underlying tb = some .bool)
    (hfn : s.fn H ds = { results := [.lit (.bool true)], args := ds }) (hb : Below W.heap.size W W') :
    s.post enc P f apart fresh handsOn false W args (.bool true) W' := by
  have hW' := hW
  obtain ⟨p, q, hA, hV, hps, hz, hn⟩ := hW
  rw [hv] at hV
  obtain ⟨rfl, rfl⟩ := trodVars_none hV
  simp only [List.append_nil] at hps
  subst hps
  have hlt : ∀ x ∈ before, x.block < W.heap.size := fun x hx => hW'.lt x hx
  refine ⟨ds, [], before, [], before, [], hW', ?_, ?_, ?_, World.keptBut_mono (fun x hx => ⟨hx, Or.inr (Or.inl hx)⟩) (hb.frame (· ∈ before)), fun h => by cases h⟩
  · rw [List.append_nil, hfn, hres]
    exact trodAll_mk1 (shut_bool htb _)
  · rw [List.append_nil, hfn]
    exact trodAll_below hl hb hr hA hlt
  · rw [List.append_nil, hfn, hv]
    exact rfl
end

theorem below_draws {B : Nat} {a w : World} (h : Below B a w) (n : Nat) : Below B a (w.drewN n) := ⟨h.os, h.tape, h.output, h.size, h.block⟩

/-! ### A slice of one-cell integers -/

/-- The slice at A holds the numbers xs; its memory lies below block B. -/
def Holds (w : World) (B : Nat) (k : IntKind) (A : Option Addr) (xs : List Int) : Prop :=
  0 < xs.length → ∃ b off : Nat, A = some ⟨b, off, none⟩ ∧ b < B ∧ ∀ j, j < xs.length → w.cell? ⟨b, off + j, none⟩ = some (.int k (xs.getD j 0))

theorem Holds.nil {w : World} {B : Nat} {k : IntKind} {A : Option Addr} : Holds w B k A [] := fun h => absurd h (by simp)

theorem Holds.keep {w w' : World} {B : Nat} {k : IntKind} {A : Option Addr} {xs : List Int} (h : Holds w B k A xs) (hk : ∀ p : Addr, p.block < B → w'.cell? p = w.cell? p) : Holds w' B k A xs := by
  intro hx
  obtain ⟨b, off, e, hb, hc⟩ := h hx
  exact ⟨b, off, e, hb, fun j hj => (hk _ hb).trans (hc j hj)⟩

theorem Holds.below {w w' : World} {B : Nat} {k : IntKind} {A : Option Addr} {xs : List Int} (h : Holds w B k A xs) (hb : Below B w w') : Holds w' B k A xs := h.keep fun _ hp => hb.cell hp

theorem Holds.more {w : World} {B B' : Nat} {k : IntKind} {A : Option Addr} {xs : List Int} (h : Holds w B k A xs) (hB : B ≤ B') : Holds w B' k A xs := by
  intro hx
  obtain ⟨b, off, e, hb, hc⟩ := h hx
  exact ⟨b, off, e, by omega, hc⟩

def Octets (xs : List Int) : Prop := ∀ n ∈ xs, 0 ≤ n ∧ n ≤ 255

theorem Octets.at_ {xs : List Int} (h : Octets xs) (j : Nat) : 0 ≤ xs[j]?.getD 0 ∧ xs[j]?.getD 0 ≤ 255 := by
  by_cases hj : j < xs.length
  · have := h xs[j] (List.getElem_mem hj)
    simpa [hj] using this
  · simp [List.getElem?_eq_none (by omega : xs.length ≤ j)]

theorem Octets.tail {xs : List Int} (h : Octets xs) (n : Nat) : Octets (xs.drop n) := fun _ hx => h _ (List.mem_of_mem_drop hx)
theorem Octets.head {xs : List Int} (h : Octets xs) (n : Nat) : Octets (xs.take n) := fun _ hx => h _ (List.mem_of_mem_take hx)

/-- A []uint8 that came in, opened: nil or not, it is a slice that holds its bytes. -/
theorem open_octets {H : Type} {enc : TypeId × Value → H} {P : Program} {w : World} {base : Nat} {t e : TypeId} {v : Value} {d : DataW H} {ps : List MemPlace}
    (ht : P.underlying t = some (.slice e)) (he : P.underlying e = some (.int .u8)) (hc : P.cellsOf e = 1)
    (hval : Value.okWide P w .any base t v) (h : DataW.Trod enc P w 0 (fun _ => true) true t v d ps) (hlt : ∀ x ∈ ps, x.block < w.heap.size) :
    ∃ (A : Option Addr) (cap : Nat) (xs : List Int), v = .slice A xs.length cap ∧ xs.length ≤ cap ∧ cap ≤ maxLen ∧ Octets xs ∧ Holds w w.heap.size .u8 A xs := by
  obtain ⟨a0, len, cap, rfl⟩ := okWide_slice ht hval
  obtain ⟨fuel, hf⟩ := h
  rcases open_ints ht he hc hf with ⟨hcs, hx⟩ | ⟨a, len', cap', zs, hcs, _, hl, hm, hz, hx, hcell, hwz⟩
  · simp [Value.cells] at hcs
    obtain ⟨rfl, rfl, rfl⟩ := hcs
    exact ⟨none, 0, [], rfl, Nat.le_refl _, Nat.zero_le _, fun _ h => by simp at h, Holds.nil⟩
  · simp [Value.cells] at hcs
    obtain ⟨rfl, rfl, rfl⟩ := hcs
    simp only [Prod.mk.injEq] at hx
    obtain ⟨rfl, rfl⟩ := hx
    simp only [if_true] at hz
    refine ⟨some a, cap, zs.take len, by simp [hz, Nat.min_eq_left hl], by simp; omega, hm, fun n hn => bounds_u8 (hwz n (List.mem_of_mem_take hn)), fun hx => ?_⟩
    simp only [List.length_take] at hx
    obtain ⟨b, off, spot⟩ := a
    have hspot : spot = none := by simpa [Addr.add] using World.cell?_spot (hcell 0 (by omega))
    subst hspot
    refine ⟨b, off, rfl, hlt (.cell b (off + 0)) (MemPlace.mem_row.2 ⟨0, by omega, by simp⟩), fun j hj => ?_⟩
    simp only [List.length_take] at hj
    rw [← add_plain, hcell j (by omega)]
    simp [List.getD, show j < len by omega]
end Go.Proofs.YtpnodocjpedcmaaDoor.Kit

namespace Go.Proofs.YtpnodocjpedcmaaDoor.Kit
open Go.ChangeShapes Go.WideShapes Go.ChangeAt Go.RowKit

/-- v is a slice of the call's own, at the head of a row from block B on (or nil), and reads xs. -/
def Own (w : World) (B : Nat) (e : TypeId) (k : IntKind) (v : Value) (xs : List Int) : Prop := w.ownsRow B e 1 v xs.length (xs.map (Value.int k))

/-- t is the type of slices over e, integers of kind k. -/
def IntElem (P : Program) (t e : TypeId) (k : IntKind) (bytes : Nat) : Prop :=
  P.underlying t = some (.slice e) ∧ (P.info? e).map (fun i => (i.zero, i.size, i.bytes)) = some (some (.int k 0), 1, bytes) ∧ bytes ≤ 8

section
variable {w w' : World} {B B' : Nat} {e : TypeId} {k : IntKind} {v : Value} {xs ys : List Int}

theorem ints_one (k : IntKind) (xs : List Int) : ∀ u ∈ xs.map (Value.int k), u.oneCell' = true := by
  intro u hu
  obtain ⟨n, _, rfl⟩ := List.mem_map.1 hu
  rfl

theorem get_ints {k : IntKind} {xs : List Int} {j : Nat} {u : Value} (h : (xs.map (Value.int k))[j]? = some u) : j < xs.length ∧ u = .int k (xs.getD j 0) := by
  rcases Nat.lt_or_ge j xs.length with hj | hj
  · simp [List.getElem?_eq_getElem hj] at h
    exact ⟨hj, by rw [← h]; simp [List.getD, List.getElem?_eq_getElem hj]⟩
  · simp [List.getElem?_eq_none hj] at h

theorem Own.nil (w : World) (B : Nat) (e : TypeId) (k : IntKind) : Own w B e k (.slice none 0 0) [] := World.ownsRow_nil w B e 1

theorem Own.empty (w : World) (e : TypeId) (k : IntKind) (hB : B ≤ w.heap.size) : Own (w.alloc (.cells #[] e)) B e k (.slice (some ⟨w.heap.size, 0, none⟩) 0 0) [] :=
  World.ownsRow_lit (size := 1) w #[] 0 hB (Nat.zero_le _) rfl

theorem Own.opened (h : Own w B e k v xs) : ∃ (A : Option Addr) (cap : Nat), v = .slice A xs.length cap ∧ xs.length ≤ cap ∧ cap ≤ maxLen ∧ Holds w w.heap.size k A xs := by
  rcases h.2 with ⟨rfl, h0⟩ | ⟨g, cap, cur, rfl, hb, hg, hnc, hcm, hcs, htake⟩
  · obtain rfl : xs = [] := List.eq_nil_of_length_eq_zero h0
    exact ⟨none, 0, rfl, Nat.le_refl _, Nat.zero_le _, Holds.nil⟩
  · refine ⟨some ⟨g, 0, none⟩, cap, rfl, hnc, hcm, fun _ => ⟨g, 0, rfl, (Array.getElem?_eq_some_iff.1 hg).1, fun j hj => ?_⟩⟩
    have := World.ownsRow.cellAt h j (by omega)
    rw [Nat.zero_add, this]
    simp [List.getD, List.getElem?_eq_getElem hj]

theorem Own.form (h : Own w B e k v xs) (hx : 0 < xs.length) : ∃ g cap : Nat, v = .slice (some ⟨g, 0, none⟩) xs.length cap ∧ B ≤ g ∧ g < w.heap.size ∧ xs.length ≤ cap ∧ cap ≤ maxLen := by
  rcases h.2 with ⟨rfl, h0⟩ | ⟨g, cap, cur, rfl, hb, hg, hnc, hcm, hcs, htake⟩
  · omega
  · exact ⟨g, cap, rfl, hb, (Array.getElem?_eq_some_iff.1 hg).1, hnc, hcm⟩

theorem Own.kept {row : Option Nat} (h : Own w B e k v xs) (hg : w.grownBy w' row) (hne : v.ownBlock = none ∨ v.ownBlock ≠ row) : Own w' B e k v xs := World.ownsRow.kept h hg hne
theorem Own.alloc (h : Own w B e k v xs) (o : Obj) : Own (w.alloc o) B e k v xs := World.ownsRow.alloc h o
theorem Own.drewN (h : Own w B e k v xs) (n : Nat) : Own (w.drewN n) B e k v xs := h
theorem Own.mono (h : Own w B e k v xs) (hb : B' ≤ B) : Own w B' e k v xs := by
  rcases h.2 with ⟨rfl, h0⟩ | ⟨g, cap, cur, rfl, hbg, hrest⟩
  · exact ⟨h.1, .inl ⟨rfl, h0⟩⟩
  · exact ⟨h.1, .inr ⟨g, cap, cur, rfl, by omega, hrest⟩⟩
theorem Own.lt (h : Own w B e k v xs) : ∀ g, v.ownBlock = some g → B ≤ g ∧ g < w.heap.size := World.ownsRow.lt h

/-- v[i] = z, v a row of the call's own. -/
theorem Own.stored {g cap n : Nat} (h : Own w B e k (.slice (some ⟨g, 0, none⟩) n cap) xs) (hn : n = xs.length) (i : Nat) (z : Int) :
    Own (w.setCell ⟨g, i, none⟩ (.int k z)) B e k (.slice (some ⟨g, 0, none⟩) n cap) (xs.set i z) ∧ w.grownBy (w.setCell ⟨g, i, none⟩ (.int k z)) (some g) := by
  subst hn
  obtain ⟨h1, h2⟩ := World.ownsRow.stored h i (.int k z)
  refine ⟨?_, h2⟩
  unfold Own
  rw [List.length_set, List.map_set]
  exact h1

theorem Own.cellAt {g cap n : Nat} (h : Own w B e k (.slice (some ⟨g, 0, none⟩) n cap) xs) (hn : n = xs.length) {i : Nat} (hi : i < xs.length) : w.cell? ⟨g, i, none⟩ = some (.int k (xs[i]?.getD 0)) := by
  subst hn
  rw [World.ownsRow.cellAt h i (by omega)]
  simp [List.getElem?_eq_getElem hi]

theorem Own.frozenAt {g cap n : Nat} (h : Own w B e k (.slice (some ⟨g, 0, none⟩) n cap) xs) (hn : n = xs.length) (i : Nat) : w.frozen? ⟨g, i, none⟩ = false := by
  subst hn
  exact World.ownsRow.frozenAt h i

theorem Own.below (h : Own w B e k v xs) (hb : Below w.heap.size w w') : Own w' B e k v xs := by
  refine h.kept (row := none) ⟨hb.os, hb.tape, hb.output, hb.size, fun g hg _ => hb.block g hg⟩ ?_
  cases hv : v.ownBlock with
  | none => exact .inl rfl
  | some g => exact .inr (by simp)

/-- Kept where all that turns lies from another row's base on. -/
theorem Own.under {C : Nat} (h : Own w B e k v xs) (hb : Below C w w') (hv : ∀ g, v.ownBlock = some g → g < C) : Own w' B e k v xs := by
  rcases h.2 with ⟨rfl, h0⟩ | ⟨g, cap, cur, rfl, hbg, hg, hnc, hcm, hcs, htake⟩
  · exact ⟨h.1, .inl ⟨rfl, h0⟩⟩
  · exact ⟨h.1, .inr ⟨g, cap, cur, rfl, hbg, (hb.block g (hv g rfl)).trans hg, hnc, hcm, hcs, htake⟩⟩

/-- Block g is just these cells of type t, none of them frozen. -/
def Block (w : World) (g : Nat) (t : TypeId) (cs : Array Value) : Prop := w.heap[g]? = some (.cells cs t (0, 0))

theorem Block.new (w : World) (t : TypeId) (cs : Array Value) : Block (w.alloc (.cells cs t)) w.heap.size t cs := heap_alloc_new w _
theorem Block.lt {g : Nat} {t : TypeId} {cs : Array Value} (h : Block w g t cs) : g < w.heap.size := (Array.getElem?_eq_some_iff.1 h).1
theorem Block.cell {g : Nat} {t : TypeId} {cs : Array Value} (h : Block w g t cs) (i : Nat) : w.cell? ⟨g, i, none⟩ = cs[i]? := cell_of_row w g i cs t (0, 0) h
theorem Block.frozen {g : Nat} {t : TypeId} {cs : Array Value} (h : Block w g t cs) (i : Nat) : w.frozen? ⟨g, i, none⟩ = false := frozen_of_row w g i cs t h
theorem Block.below {g : Nat} {t : TypeId} {cs : Array Value} (h : Block w g t cs) (hb : Below B w w') (hg : g < B) : Block w' g t cs := (hb.block g hg).trans h
theorem Block.grown {g : Nat} {t : TypeId} {cs : Array Value} {row : Option Nat} (h : Block w g t cs) (hb : w.grownBy w' row) (hg : row ≠ some g) : Block w' g t cs := (hb.block g h.lt (Ne.symm hg)).trans h
theorem Block.alloc {g : Nat} {t : TypeId} {cs : Array Value} (h : Block w g t cs) (o : Obj) : Block (w.alloc o) g t cs := (Below.heap_alloc w o g h.lt).trans h
theorem Block.drewN {g : Nat} {t : TypeId} {cs : Array Value} (h : Block w g t cs) (n : Nat) : Block (w.drewN n) g t cs := h
theorem Block.set_ {g : Nat} {t : TypeId} {cs : Array Value} (h : Block w g t cs) (i : Nat) (u : Value) : Block (w.setCell ⟨g, i, none⟩ u) g t (cs.setIfInBounds i u) := heap_setCell_same w g i cs t u h
theorem Block.far {g : Nat} {t : TypeId} {cs : Array Value} (h : Block w g t cs) {p : Addr} (hp : g ≠ p.block) (u : Value) : Block (w.setCell p u) g t cs := (Below.heap_setCell w p u g hp).trans h

/-- Rows of different types of elements never share a block. -/
theorem Own.ne_block {g : Nat} {t : TypeId} {cs : Array Value} (h : Own w B e k v xs) (hg : Block w g t cs) (hne : e ≠ t) : v.ownBlock ≠ some g := by
  rcases h.2 with ⟨rfl, _⟩ | ⟨g', cap, cur, rfl, _, hh, _⟩
  · simp [Value.ownBlock]
  · intro he
    obtain rfl : g' = g := by simpa [Value.ownBlock] using he
    unfold Block at hg
    rw [hh] at hg
    injection hg with hg
    injection hg with _ ht
    exact hne ht

theorem below_of_grown {row : Option Nat} (hg : w.grownBy w' row) (hB : B ≤ w.heap.size) (hr : ∀ g, row = some g → B ≤ g) : Below B w w' := (Below.refl B w).grown hg hB hr
end

section
variable {P : Program} (w : World)

theorem run_append_no_source (t ty e : TypeId) (i : TypeInfo) (ht : P.underlying t = some (.slice e)) (hi : P.info? e = some i) {B size : Nat}
    (v : Value) (n : Nat) (xs : List Value) (hown : w.ownsRow B e size v n xs) (c : Nat) : (Builtin.append_ #[t, t] ty #[v, .slice none 0 c]).run P w = .ok v w := by
  rcases hown.2 with ⟨rfl, _⟩ | ⟨g, cap, cur, rfl, _, _, hnc, _⟩
  · simp [Builtin.append_, run_underlying ht, sizeOf, typeInfo, hi, Builtin.lenOf, Builtin.firstCells]
  · simp [Builtin.append_, run_underlying ht, sizeOf, typeInfo, hi, Builtin.lenOf, Builtin.firstCells, hnc, storeCells]

theorem run_append_ints {t ty e : TypeId} {k : IntKind} {bytes : Nat} (he : IntElem P t e k bytes) {B B' : Nat} {v : Value} {xs ys : List Int} (hown : Own w B e k v xs)
    {A : Option Addr} (c : Nat) (hr : Holds w B' k A ys) (hsz : xs.length + ys.length ≤ 1099511627776) (hbase : B ≤ w.heap.size) :
    ∃ v' w', (Builtin.append_ #[t, t] ty #[v, .slice A ys.length c]).run P w = .ok v' w' ∧ Own w' B e k v' (xs ++ ys) ∧ w.grownBy w' v.ownBlock ∧
      (v'.ownBlock = v.ownBlock ∨ v'.ownBlock = some w.heap.size) := by
  obtain ⟨ht, hinfo, hb8⟩ := he
  obtain ⟨i, hi, hz, hs, hby⟩ := info_parts hinfo
  cases A with
  | none =>
    have h0 : ys = [] := by
      rcases Nat.eq_zero_or_pos ys.length with h | h
      · exact List.eq_nil_of_length_eq_zero h
      · obtain ⟨_, _, h', _⟩ := hr h
        cases h'
    subst h0
    exact ⟨v, w, run_append_no_source w t ty e i ht hi v _ _ hown c, by simpa using hown, World.grownBy.refl w _, .inl rfl⟩
  | some ad =>
    have hcells : ∀ j u, (ys.map (Value.int k))[j]? = some u → w.cell? (ad.add j) = some u := by
      intro j u hu
      obtain ⟨hj, rfl⟩ := get_ints hu
      obtain ⟨b, off, h', _, hc⟩ := hr (by omega)
      injection h' with h'
      subst h'
      rw [add_plain]
      exact hc j hj
    have hmul : (xs.length + ys.length) * bytes ≤ (xs.length + ys.length) * 8 := Nat.mul_le_mul_left _ hb8
    obtain ⟨v', w', hrun, h2, h3, _, h5⟩ := run_append_own_at (P := P) w B t ty e i (.int k 0) 1 bytes ht hi hz hs hby rfl (by omega) v xs.length (xs.map (Value.int k)) hown
      ad ys.length c (ys.map (Value.int k)) (by simp) hcells (ints_one k ys) (by unfold maxLen; omega) (by omega) hbase
    exact ⟨v', w', hrun, by simpa [Own] using h2, h3, h5⟩

/-- append(v, ys...): v a row of the call's own, ys any slice of the same integers. -/
theorem wpList_append_ints {ops : Array Oper} {rest : List Oper} {o : Oper} {a : Act} {Q : Exit → Act → World → Prop} (hgd : o.guard = none) (s x : Operand) (t : TypeId)
    (ho : o.op = .call { callee := .builtin .append, args := #[s, x], argTypes := #[t, t] }) {e : TypeId} {k : IntKind} {bytes : Nat} (he : IntElem P t e k bytes)
    {B B' : Nat} {v : Value} {xs ys : List Int} (hown : Own w B e k v xs) (hs : a.eval s = v)
    {A : Option Addr} {c : Nat} (hx : a.eval x = .slice A ys.length c) (hr : Holds w B' k A ys) (hsz : xs.length + ys.length ≤ 1099511627776) (hbase : B ≤ w.heap.size)
    (h : ∀ v' w', Own w' B e k v' (xs ++ ys) → w.grownBy w' v.ownBlock → Below B w w' → (v'.ownBlock = v.ownBlock ∨ v'.ownBlock = some w.heap.size) → wpList P ops Q rest (a.put o.dst v') w') :
    wpList P ops Q (o :: rest) a w := by
  refine wpList_plain hgd fun K hK => ?_
  obtain ⟨v', w', hrun, h2, h3, h4⟩ := run_append_ints (P := P) w (ty := o.type) he hown c hr hsz hbase
  unfold Oper.wp
  simp only [execOp, ho, resolve, invoke, builtin, Sem.run_bind, Sem.run_pure, Result.andThen_ok, List.map_toArray, List.map_cons, List.map_nil, hs, hx, hrun]
  exact hK _ _ (h v' w' h2 h3 (below_of_grown h3 hbase fun g hg => (hown.lt g hg).1) h4)

theorem Holds.new (w : World) (k : IntKind) (z : Int) (e : TypeId) : Holds (w.alloc (.cells #[.int k z] e)) (w.heap.size + 1) k (some ⟨w.heap.size, 0, none⟩) [z] := by
  intro _
  refine ⟨w.heap.size, 0, rfl, by omega, fun j hj => ?_⟩
  obtain rfl : j = 0 := by simpa using hj
  exact cell_of_row (w.alloc (.cells #[.int k z] e)) w.heap.size 0 #[.int k z] e (0, 0) (heap_alloc_new w _)

/-- append(v, z): v a row of the call's own; z lies alone in the newest block. -/
theorem wpList_append_one {ops : Array Oper} {rest : List Oper} {o : Oper} {a : Act} {Q : Exit → Act → World → Prop} (hgd : o.guard = none) (s x : Operand) (t : TypeId)
    (ho : o.op = .call { callee := .builtin .append, args := #[s, x], argTypes := #[t, t] }) {e : TypeId} {k : IntKind} {bytes : Nat} (he : IntElem P t e k bytes)
    {B : Nat} {v : Value} {xs : List Int} (hown : Own w B e k v xs) (hs : a.eval s = v)
    {z : Int} {c : Nat} (hx : a.eval x = .slice (some ⟨w.heap.size, 0, none⟩) 1 c) (hsz : xs.length + 1 ≤ 1099511627776) (hbase : B ≤ w.heap.size)
    (h : ∀ v' w', Own w' B e k v' (xs ++ [z]) → (w.alloc (.cells #[.int k z] e)).grownBy w' v.ownBlock → Below B w w' → wpList P ops Q rest (a.put o.dst v') w') :
    wpList P ops Q (o :: rest) a (w.alloc (.cells #[.int k z] e)) := by
  refine wpList_append_ints (ys := [z]) (B' := w.heap.size + 1) _ hgd s x t ho he (hown.alloc _) hs hx (Holds.new w k z e) (by simpa using hsz) (by simp; omega) ?_
  intro v' w' h1 h2 h3 _
  exact h v' w' h1 h2 (((Below.refl B w).alloc hbase _).trans h3)

/-- make([]T, n, m), both variables. -/
theorem wpList_make_ints {ops : Array Oper} {rest : List Oper} {o : Oper} {a : Act} {Q : Exit → Act → World → Prop} (hgd : o.guard = none) (l c : Operand) (t : TypeId)
    (ho : o.op = Op.makeSlice t l c) {e : TypeId} {k : IntKind} {bytes : Nat} (he : IntElem P t e k bytes) {kl kc : IntKind} {L C : Int} (n m : Nat)
    (hl : a.eval l = .int kl L) (hc : a.eval c = .int kc C) (hL : L = (n : Int)) (hC : C = (m : Int)) (hnm : n ≤ m) (hsz : m ≤ 1099511627776)
    (h : ∀ w', Own w' w.heap.size e k (.slice (some ⟨w.heap.size, 0, none⟩) n m) (List.replicate n 0) → Below w.heap.size w w' → w.heap.size < w'.heap.size →
      wpList P ops Q rest (a.put o.dst (.slice (some ⟨w.heap.size, 0, none⟩) n m)) w') :
    wpList P ops Q (o :: rest) a w := by
  obtain ⟨ht, hinfo, hb8⟩ := he
  obtain ⟨i, hi, hz, hs, hby⟩ := info_parts hinfo
  subst hL; subst hC
  refine wpList_plain hgd fun K hK => ?_
  have hmul : m * bytes ≤ m * 8 := Nat.mul_le_mul_left _ hb8
  have hmul2 : (bytes : Int) * (m : Int) = ((m * bytes : Nat) : Int) := by push_cast; rw [Int.mul_comm]
  have hrun := run_make (P := P) w t e i (.int k 0) ht hi hz kl kc n m (by omega) (by omega) (by rw [hby, hmul2]; omega) (by omega)
  unfold Oper.wp
  simp [execOp, ho, hl, hc, hrun, Result.andThen]
  refine hK _ _ ?_
  have hcells : (madeCells (Value.int k 0).cells ((m : Int).toNat * i.size)) = (List.replicate m (Value.int k 0)).toArray := by
    apply Array.toList_inj.1
    rw [hs, show (Value.int k 0).cells = #[Value.int k 0] from rfl, toList_madeCells_one]
    simp
  rw [Int.toNat_natCast] at hcells
  rw [hcells]
  refine h _ ⟨by simp, .inr ⟨w.heap.size, m, _, by simp, Nat.le_refl _, heap_alloc_new w _, by simpa using hnm, by unfold maxLen; omega, by simp, ?_⟩⟩ ((Below.refl _ _).alloc (Nat.le_refl _) _) (by simp)
  simp [Nat.min_eq_left hnm]

/-- copy(v, ys): v a row of the call's own, whole; ys any slice of the same integers, no longer than v. -/
theorem wpList_copy_ints {ops : Array Oper} {rest : List Oper} {o : Oper} {a : Act} {Q : Exit → Act → World → Prop} (hgd : o.guard = none) (d s : Operand) (t : TypeId)
    (ho : o.op = .call { callee := .builtin .copy, args := #[d, s], argTypes := #[t, t] }) {e : TypeId} {k : IntKind} {bytes : Nat} (he : IntElem P t e k bytes)
    {B B' : Nat} {v : Value} {xs ys : List Int} (hown : Own w B e k v xs) (hd : a.eval d = v) {A : Option Addr} {c : Nat} (hs : a.eval s = .slice A ys.length c) (hr : Holds w B' k A ys)
    (hle : ys.length ≤ xs.length) (hbase : B ≤ w.heap.size)
    (h : ∀ w', Own w' B e k v (ys ++ xs.drop ys.length) → w.grownBy w' v.ownBlock → Below B w w' → wpList P ops Q rest (a.put o.dst (goInt ys.length)) w') :
    wpList P ops Q (o :: rest) a w := by
  obtain ⟨ht, hinfo, hb8⟩ := he
  obtain ⟨i, hi, hz, hsi, hby⟩ := info_parts hinfo
  have hsz : (P.info? e).map (·.size) = some 1 := by rw [hi]; simp [hsi]
  rcases Nat.eq_zero_or_pos ys.length with h0 | h0
  · obtain rfl : ys = [] := List.eq_nil_of_length_eq_zero h0
    obtain ⟨A', cap', rfl, _⟩ := hown.opened
    refine wpList_copy_nothing hgd d s t t ho e ht hsz _ _ _ _ _ _ hd hs (by simp) ?_
    exact h w (by simpa using hown) (World.grownBy.refl w _) (Below.refl _ _)
  · obtain ⟨b, off, rfl, hb, hc⟩ := hr h0
    have hxl : xs.length ≠ 0 := by omega
    rcases hown.2 with ⟨rfl, h1⟩ | ⟨g, cap, cur, rfl, hbg, hg, hnc, hcm, hcs, htake⟩
    · omega
    · refine wpList_copy_own hgd d s t t ho e ht hsz g 0 xs.length cap ⟨b, off, none⟩ ys.length c hd hs cur e hg (ys.map (Value.int k)) (by simp [Nat.min_eq_left hle]) ?_ (by simp; omega) (ints_one k ys) ?_
      · intro j u hu
        obtain ⟨hj, rfl⟩ := get_ints hu
        rw [add_plain]
        exact hc j hj
      · have hlen : (ys ++ xs.drop ys.length).length = xs.length := by simp; omega
        have hgrown : w.grownBy (w.setRow g (cur.toList.take 0 ++ (ys.map (Value.int k) ++ cur.toList.drop (0 + (ys.map (Value.int k)).length))).toArray) (some g) :=
          ⟨rfl, rfl, rfl, by simp [World.setRow], fun j _ hj => setRow_other w g j _ (fun e => hj (by rw [e]))⟩
        rw [show goInt (ys.map (Value.int k)).length = goInt ys.length by simp]
        refine h _ ?_ hgrown (below_of_grown hgrown hbase fun g' hg' => by simp at hg'; omega)
        refine ⟨by simp, .inr ⟨g, cap, _, by rw [hlen], hbg, setRow_heap w g _ _ e _ hg, by omega, hcm, ?_, ?_⟩⟩
        · simp; omega
        · rw [hlen]
          simp only [Nat.mul_one] at htake ⊢
          simp only [List.take_zero, List.nil_append, Nat.zero_add, List.length_map, List.map_append, List.map_drop]
          rw [List.take_append, List.length_map, List.take_of_length_le (by simp; omega), ← htake, List.drop_take]
end
end Go.Proofs.YtpnodocjpedcmaaDoor.Kit

namespace Go.Proofs.YtpnodocjpedcmaaDoor.Kit
open Go.ChangeShapes Go.WideShapes Go.ChangeAt Go.RowKit

/-- From w to w' nothing has turned but blocks in S and new ones. -/
structure TurnsIn (S : Nat → Prop) (w w' : World) : Prop where
  os : w'.os = w.os
  tape : w'.tape = w.tape
  output : w'.output = w.output
  size : w.heap.size ≤ w'.heap.size
  block : ∀ b, b < w.heap.size → ¬ S b → w'.heap[b]? = w.heap[b]?

section
variable {S T : Nat → Prop} {w w' w1 w2 : World} {B : Nat} {e : TypeId} {k : IntKind} {v : Value} {xs : List Int}

theorem TurnsIn.refl (S : Nat → Prop) (w : World) : TurnsIn S w w := ⟨rfl, rfl, rfl, Nat.le_refl _, fun _ _ _ => rfl⟩
theorem TurnsIn.trans (h : TurnsIn S w w1) (g : TurnsIn S w1 w2) : TurnsIn S w w2 :=
  ⟨g.os.trans h.os, g.tape.trans h.tape, g.output.trans h.output, Nat.le_trans h.size g.size, fun b hb hs => (g.block b (Nat.lt_of_lt_of_le hb h.size) hs).trans (h.block b hb hs)⟩
/-- The second step may turn what is new in the first one, too. -/
theorem TurnsIn.then_ (h : TurnsIn S w w1) (g : TurnsIn T w1 w2) (hT : ∀ b, b < w.heap.size → T b → S b) : TurnsIn S w w2 :=
  ⟨g.os.trans h.os, g.tape.trans h.tape, g.output.trans h.output, Nat.le_trans h.size g.size, fun b hb hs => (g.block b (Nat.lt_of_lt_of_le hb h.size) (fun ht => hs (hT b hb ht))).trans (h.block b hb hs)⟩
theorem TurnsIn.mono (h : TurnsIn S w w') (hT : ∀ b, b < w.heap.size → S b → T b) : TurnsIn T w w' := ⟨h.os, h.tape, h.output, h.size, fun b hb hs => h.block b hb (fun hx => hs (hT b hb hx))⟩
theorem TurnsIn.ofBelow (h : Below B w w') (hs : ∀ b, b < w.heap.size → B ≤ b → S b) : TurnsIn S w w' :=
  ⟨h.os, h.tape, h.output, h.size, fun b hb hn => h.block b (Nat.lt_of_not_le fun hle => hn (hs b hb hle))⟩
theorem TurnsIn.ofNew (h : Below w.heap.size w w') : TurnsIn S w w' := .ofBelow h fun b hb hle => absurd hb (by omega)
theorem TurnsIn.ofGrown {row : Option Nat} (h : w.grownBy w' row) (hs : ∀ b, row = some b → S b) : TurnsIn S w w' :=
  ⟨h.os, h.tape, h.output, h.size, fun b hb hn => h.block b hb fun he => hn (hs b he.symm)⟩
theorem TurnsIn.toBelow (h : TurnsIn S w w') (hB : B ≤ w.heap.size) (hs : ∀ b, b < B → ¬ S b) : Below B w w' :=
  ⟨h.os, h.tape, h.output, h.size, fun b hb => h.block b (by omega) (hs b hb)⟩
theorem TurnsIn.drewN (h : TurnsIn S w w') (n : Nat) : TurnsIn S w (w'.drewN n) := ⟨h.os, h.tape, h.output, h.size, h.block⟩
theorem TurnsIn.alloc (h : TurnsIn S w w') (o : Obj) : TurnsIn S w (w'.alloc o) :=
  ⟨h.os, h.tape, h.output, Nat.le_trans h.size (by simp), fun b hb hn => (Below.heap_alloc w' o b (Nat.lt_of_lt_of_le hb h.size)).trans (h.block b hb hn)⟩
theorem TurnsIn.setCell (h : TurnsIn S w w') {p : Addr} (hp : S p.block ∨ w.heap.size ≤ p.block) (u : Value) : TurnsIn S w (w'.setCell p u) :=
  ⟨h.os, h.tape, h.output, by simpa [World.setCell] using h.size, fun b hb hn => (Below.heap_setCell w' p u b (by
    rintro rfl
    rcases hp with hp | hp
    · exact hn hp
    · omega)).trans (h.block b hb hn)⟩

theorem Own.out (h : Own w B e k v xs) (ho : TurnsIn S w w') (hv : ∀ g, v.ownBlock = some g → ¬ S g) : Own w' B e k v xs := by
  rcases h.2 with ⟨rfl, h0⟩ | ⟨g, cap, cur, rfl, hbg, hg, hnc, hcm, hcs, htake⟩
  · exact ⟨h.1, .inl ⟨rfl, h0⟩⟩
  · exact ⟨h.1, .inr ⟨g, cap, cur, rfl, hbg, (ho.block g (Array.getElem?_eq_some_iff.1 hg).1 (hv g rfl)).trans hg, hnc, hcm, hcs, htake⟩⟩
theorem Block.out {g : Nat} {t : TypeId} {cs : Array Value} (h : Block w g t cs) (ho : TurnsIn S w w') (hg : ¬ S g) : Block w' g t cs := (ho.block g h.lt hg).trans h
theorem Holds.out {A : Option Addr} (h : Holds w B k A xs) (ho : TurnsIn S w w') (hB : B ≤ w.heap.size) (hs : ∀ b, b < B → ¬ S b) : Holds w' B k A xs := h.below (ho.toBelow hB hs)

/-- What turned keeps a block's kind of row: a row that grew lies where it lay, or is new. -/
def Newer (w : World) (v v' : Value) : Prop := v'.ownBlock = v.ownBlock ∨ ∀ g, v'.ownBlock = some g → w.heap.size ≤ g
theorem Newer.refl (w : World) (v : Value) : Newer w v v := .inl rfl
theorem Newer.trans {v1 v2 : Value} (h : Newer w v v1) (hs : w.heap.size ≤ w1.heap.size) (g : Newer w1 v1 v2) : Newer w v v2 := by
  rcases g with g | g
  · rcases h with h | h
    · exact .inl (g.trans h)
    · exact .inr fun x hx => h x (g ▸ hx)
  · exact .inr fun x hx => Nat.le_trans hs (g x hx)
theorem Newer.ofApp {v' : Value} (h : v'.ownBlock = v.ownBlock ∨ v'.ownBlock = some w.heap.size) : Newer w v v' := by
  rcases h with h | h
  · exact .inl h
  · exact .inr fun g hg => by rw [h] at hg; injection hg with hg; omega
/-- A row of one's own that lies apart from another one stays apart. -/
theorem Newer.apart {v' u : Value} {g : Nat} (h : Newer w v v') (hu : u.ownBlock = some g) (hl : g < w.heap.size) (hn : v.ownBlock ≠ some g) : v'.ownBlock ≠ some g := by
  rcases h with h | h
  · rw [h]; exact hn
  · intro he; have := h g he; omega
end

/-- append(v, ys...), as one step of a region that draws its order. -/
theorem step_append_ints {P : Program} {ops : Array Oper} {o : Oper} {a : Act} {w : World} {K : Act → World → Prop} {Q : Exit → Act → World → Prop} {E : Prop}
    (hg : o.guard = none) (s x : Operand) (t : TypeId) (ho : o.op = Op.call { callee := Callee.builtin Builtin.append, args := #[s, x], argTypes := #[t, t] })
    {e : TypeId} {k : IntKind} {bytes : Nat} (he : IntElem P t e k bytes) {B B' : Nat} {v : Value} {xs ys : List Int} (hown : Own w B e k v xs) (hs : a.eval s = v)
    {A : Option Addr} {c : Nat} (hx : a.eval x = .slice A ys.length c) (hr : Holds w B' k A ys) (hsz : xs.length + ys.length ≤ 1099511627776) (hbase : B ≤ w.heap.size)
    (hK : ∀ v' w', Own w' B e k v' (xs ++ ys) → w.grownBy w' v.ownBlock → Below B w w' → (v'.ownBlock = v.ownBlock ∨ v'.ownBlock = some w.heap.size) → K (a.put o.dst v') w') :
    if Region.wanted o (yielded ops a.tmps) = true then Oper.wp P o a w K Q else E := by
  have hw : Region.wanted o (yielded ops a.tmps) = true := by simp [Region.wanted, hg]
  rw [if_pos hw]
  obtain ⟨v', w', hrun, h2, h3, h4⟩ := run_append_ints (P := P) w (ty := o.type) he hown c hr hsz hbase
  unfold Oper.wp
  simp [execOp, ho, resolve, invoke, builtin, hs, hx, hrun, Result.andThen]
  exact hK _ _ h2 h3 (below_of_grown h3 hbase fun g hg => (hown.lt g hg).1) h4

/-- append(v, z), z alone in the newest block, as one step of a region that draws its order; a block of other cells stays as it is. -/
theorem step_append_one {P : Program} {ops : Array Oper} {o : Oper} {a : Act} {w : World} {K : Act → World → Prop} {Q : Exit → Act → World → Prop} {E : Prop}
    (hg : o.guard = none) (s x : Operand) (t : TypeId) (ho : o.op = Op.call { callee := Callee.builtin Builtin.append, args := #[s, x], argTypes := #[t, t] })
    {e : TypeId} {k : IntKind} {bytes : Nat} (he : IntElem P t e k bytes) {B : Nat} {v : Value} {xs : List Int} {z : Int} (hown : Own w B e k v xs) (hs : a.eval s = v)
    {c : Nat} (hx : a.eval x = .slice (some ⟨w.heap.size, 0, none⟩) 1 c) (hsz : xs.length + 1 ≤ 1099511627776) (hbase : B ≤ w.heap.size)
    {g : Nat} {tg : TypeId} {cs : Array Value} (hblk : Block w g tg cs) (hne : e ≠ tg)
    (hK : ∀ A' c' w', Own w' B e k (.slice A' (xs.length + 1) c') (xs ++ [z]) → TurnsIn (fun b => v.ownBlock = some b) w w' → Newer w v (.slice A' (xs.length + 1) c') → Block w' g tg cs → K (a.put o.dst (.slice A' (xs.length + 1) c')) w') :
    if Region.wanted o (yielded ops a.tmps) = true then Oper.wp P o a (w.alloc (.cells #[.int k z] e)) K Q else E := by
  refine step_append_ints (ys := [z]) hg s x t ho he (hown.alloc _) hs hx (Holds.new w k z e) (by simpa using hsz) (by simp; omega) ?_
  intro v' w' h1 h2 h3 h4
  obtain ⟨A', c', rfl, _, _, _⟩ := h1.opened
  have hlen : (xs ++ [z]).length = xs.length + 1 := by simp
  have hk := hK A' c' w'
  rw [hlen] at h1 h4
  rw [hlen]
  refine hk h1 (((TurnsIn.refl _ w).alloc _).trans (.ofGrown h2 fun b hb => hb)) ?_ ((hblk.alloc _).grown h2 (hown.ne_block hblk hne))
  rcases h4 with h4 | h4
  · exact .inl h4
  · exact .inr fun g hg => by rw [h4] at hg; simp at hg; omega

/-- The same behind the region's draw. -/
theorem step_append_one_drew {P : Program} {ops : Array Oper} {o : Oper} {a : Act} {w : World} {K : Act → World → Prop} {Q : Exit → Act → World → Prop} {E : Prop}
    (hg : o.guard = none) (s x : Operand) (t : TypeId) (ho : o.op = Op.call { callee := Callee.builtin Builtin.append, args := #[s, x], argTypes := #[t, t] })
    {e : TypeId} {k : IntKind} {bytes : Nat} (he : IntElem P t e k bytes) {B : Nat} {v : Value} {xs : List Int} {z : Int} (hown : Own w B e k v xs) (hs : a.eval s = v)
    {c : Nat} (hx : a.eval x = .slice (some ⟨w.heap.size, 0, none⟩) 1 c) (hsz : xs.length + 1 ≤ 1099511627776) (hbase : B ≤ w.heap.size)
    {g : Nat} {tg : TypeId} {cs : Array Value} (hblk : Block w g tg cs) (hne : e ≠ tg)
    (hK : ∀ A' c' w', Own w' B e k (.slice A' (xs.length + 1) c') (xs ++ [z]) → TurnsIn (fun b => v.ownBlock = some b) w w' → Newer w v (.slice A' (xs.length + 1) c') → Block w' g tg cs → K (a.put o.dst (.slice A' (xs.length + 1) c')) w') :
    if Region.wanted o (yielded ops a.tmps) = true then Oper.wp P o a (w.alloc (.cells #[.int k z] e)).drew K Q else E := by
  have h := step_append_one (E := E) (K := K) (Q := Q) (ops := ops) (w := w.drew) (z := z) hg s x t ho he (by exact hown) hs hx hsz hbase (by exact hblk) hne
    (fun A' c' w' h1 h2 h3 h4 => hK A' c' w' h1 ⟨h2.os, h2.tape, h2.output, h2.size, h2.block⟩ h3 h4)
  exact h
end Go.Proofs.YtpnodocjpedcmaaDoor.Kit

namespace Go.Proofs.YtpnodocjpedcmaaDoor.Sec
open Go.ChangeShapes Go.WideShapes Go.ChangeAt Go.RowKit Go.Proofs.YtpnodocjpedcmaaDoor.Kit Go.Maps

/-- Sectors: their numbers, rising; the bytes of each, or none, where it is torn. -/
abbrev Sl := List (Int × Option (List Int))
def putS : Sl → Int → Option (List Int) → Sl
  | [], k, o => [(k, o)]
  | (j, u) :: r, k, o => if k < j then (k, o) :: (j, u) :: r else if k = j then (k, o) :: r else (j, u) :: putS r k o
def getS : Sl → Int → Option (Option (List Int))
  | [], _ => none
  | (j, u) :: r, k => if j = k then some u else getS r k
def Up (l : Sl) : Prop := l.Pairwise (fun p q => p.1 < q.1)

theorem mem_putS {l : Sl} {k : Int} {o : Option (List Int)} {p : Int × Option (List Int)} (h : p ∈ putS l k o) : p = (k, o) ∨ p ∈ l := by
  induction l with
  | nil => simp [putS] at h; exact Or.inl h
  | cons q r ih =>
    obtain ⟨j, u⟩ := q
    unfold putS at h
    split at h
    · rcases List.mem_cons.1 h with h | h
      · exact Or.inl h
      · exact Or.inr h
    · split at h
      · rcases List.mem_cons.1 h with h | h
        · exact Or.inl h
        · exact Or.inr (List.mem_cons_of_mem _ h)
      · rcases List.mem_cons.1 h with h | h
        · exact Or.inr (h ▸ List.mem_cons_self)
        · rcases ih h with h | h
          · exact Or.inl h
          · exact Or.inr (List.mem_cons_of_mem _ h)
theorem up_nil : Up [] := List.Pairwise.nil
theorem Up.putS {l : Sl} (h : Up l) (k : Int) (o : Option (List Int)) : Up (putS l k o) := by
  induction l with
  | nil => exact List.pairwise_singleton _ _
  | cons q r ih =>
    obtain ⟨j, u⟩ := q
    obtain ⟨h1, h2⟩ := List.pairwise_cons.1 h
    unfold Sec.putS
    split
    · rename_i hk
      exact List.pairwise_cons.2 ⟨fun p hp => by
        rcases List.mem_cons.1 hp with rfl | hp
        · exact hk
        · have : j < p.1 := h1 p hp
          show k < p.1
          omega, h⟩
    · split
      · rename_i hk
        exact List.pairwise_cons.2 ⟨fun p hp => by have : j < p.1 := h1 p hp; show k < p.1; omega, h2⟩
      · exact List.pairwise_cons.2 ⟨fun p hp => by
          rcases mem_putS hp with rfl | hp
          · show j < k; omega
          · exact h1 p hp, ih h2⟩
theorem up_length {c : Int} : ∀ (l : Sl) (a : Int), Up l → (∀ p ∈ l, a ≤ p.1 ∧ p.1 < c) → (l.length : Int) ≤ max (c - a) 0
  | [], _, _, _ => by simp; omega
  | q :: r, a, h, hb => by
    obtain ⟨h1, h2⟩ := List.pairwise_cons.1 h
    have hq := hb q (by simp)
    have := up_length r (q.1 + 1) h2 (fun p hp => ⟨by have : q.1 < p.1 := h1 p hp; omega, (hb p (List.mem_cons_of_mem _ hp)).2⟩)
    simp only [List.length_cons, Int.natCast_add]
    omega

/-! ### in memory -/
def codeS (g m c : Nat) : DataW Unit := .agg [.lit (.int .i64 g), .lit (.int .i64 m), .lit (.int .i64 c)]
/-- How the bytes of a sector that waits read. -/
def RW (v : Value) : Option (DataW Unit × List MemPlace) :=
  match v with
  | .slice (some ⟨g, 0, none⟩) m c => some (codeS g m c, [])
  | .slice none 0 0 => some (.lit (.bool false), [])
  | _ => none
/-- How what is kept of a sector reads. -/
def RK (v : Value) : Option (DataW Unit × List MemPlace) :=
  match v with
  | .agg cs =>
    match cs.toList with
    | [.slice (some ⟨g, 0, none⟩) m c, .bool false] => some (codeS g m c, [])
    | [.slice none 0 0, .bool t] => some (.lit (.bool t), [])
    | _ => none
  | _ => none
theorem codeS_inj {g m c g' m' c' : Nat} (h : codeS g m c = codeS g' m' c') : g = g' ∧ m = m' ∧ c = c' := by
  unfold codeS at h
  simp at h
  omega
theorem RW_some {v : Value} {g m c : Nat} {ps : List MemPlace} (h : RW v = some (codeS g m c, ps)) : v = .slice (some ⟨g, 0, none⟩) m c := by
  unfold RW at h
  split at h
  · simp only [Option.some.injEq, Prod.mk.injEq] at h
    obtain ⟨rfl, rfl, rfl⟩ := codeS_inj h.1
    rfl
  · simp [codeS] at h
  · cases h
theorem RW_none {v : Value} {ps : List MemPlace} (h : RW v = some (.lit (.bool false), ps)) : v = .slice none 0 0 := by
  unfold RW at h
  split at h
  · simp [codeS] at h
  · rfl
  · cases h
theorem RK_some {v : Value} {g m c : Nat} {ps : List MemPlace} (h : RK v = some (codeS g m c, ps)) : v = .agg #[.slice (some ⟨g, 0, none⟩) m c, .bool false] := by
  unfold RK at h
  split at h
  · rename_i cs
    split at h
    · rename_i h2
      simp only [Option.some.injEq, Prod.mk.injEq] at h
      obtain ⟨rfl, rfl, rfl⟩ := codeS_inj h.1
      congr 1
      exact Array.toList_inj.1 h2
    · simp [codeS] at h
    · cases h
  · cases h
theorem RK_lit {v : Value} {t : Bool} {ps : List MemPlace} (h : RK v = some (.lit (.bool t), ps)) : v = .agg #[.slice none 0 0, .bool t] := by
  unfold RK at h
  split at h
  · rename_i cs
    split at h
    · simp [codeS] at h
    · rename_i h2
      simp only [Option.some.injEq, Prod.mk.injEq, DataW.lit.injEq, Lit.bool.injEq] at h
      obtain ⟨rfl, _⟩ := h
      congr 1
      exact Array.toList_inj.1 h2
    · cases h
  · cases h

/-- An entry of a map is a sector of the list. -/
def Tie (w : World) (I : Nat → Prop) (n : Nat) (p : Lit × DataW Unit) (q : Int × Option (List Int)) : Prop :=
  p.1 = .int .i64 q.1 ∧ match q.2 with
    | some xs => ∃ g c, p.2 = codeS g n c ∧ xs.length = n ∧ Octets xs ∧ I g ∧ Own w 0 5 .u8 (.slice (some ⟨g, 0, none⟩) n c) xs
    | none => p.2 = .lit (.bool true)
inductive Ties (w : World) (I : Nat → Prop) (n : Nat) : List (Lit × DataW Unit) → Sl → Prop
  | nil : Ties w I n [] []
  | cons {p q es l} : Tie w I n p q → Ties w I n es l → Ties w I n (p :: es) (q :: l)
theorem Ties.length {w : World} {I : Nat → Prop} {n : Nat} {es : List (Lit × DataW Unit)} {l : Sl} (h : Ties w I n es l) : es.length = l.length := by
  induction h with
  | nil => rfl
  | cons _ _ ih => simp [ih]

theorem same_int (j k : Int) : (Lit.int .i64 j).sameKey (.int .i64 k) = decide (j = k) := by simp [Lit.sameKey]
theorem before_int (j k : Int) : (Lit.int .i64 j).before (.int .i64 k) = decide (j < k) := rfl

/-- Where all numbers are above k, no entry is k's. -/
theorem Ties.none_same {w : World} {I : Nat → Prop} {n : Nat} {es : List (Lit × DataW Unit)} {l : Sl} (h : Ties w I n es l) (k : Int) (hk : ∀ p ∈ l, k < p.1) : es.filter (fun p => !p.1.sameKey (.int .i64 k)) = es := by
  induction h with
  | nil => rfl
  | @cons p q es l ht _ ih =>
    have hq := hk q (by simp)
    rw [List.filter_cons, ht.1, same_int, decide_eq_false (by omega), ih (fun x hx => hk x (List.mem_cons_of_mem _ hx))]
    rfl
theorem Ties.insert_front {w : World} {I : Nat → Prop} {n : Nat} {es : List (Lit × DataW Unit)} {l : Sl} (h : Ties w I n es l) (k : Int) (d : DataW Unit) (hk : ∀ p ∈ l, k < p.1) : DataW.insert (.int .i64 k, d) es = (.int .i64 k, d) :: es := by
  cases h with
  | nil => rfl
  | @cons p q es l ht _ =>
    have hq := hk q (by simp)
    unfold DataW.insert
    rw [ht.1]
    rw [before_int, decide_eq_true hq]
    rfl

theorem Ties.put {w : World} {I : Nat → Prop} {n : Nat} {es : List (Lit × DataW Unit)} {l : Sl} (h : Ties w I n es l) (hu : Up l) (k : Int) (d : DataW Unit) (o : Option (List Int)) (ht : Tie w I n (.int .i64 k, d) (k, o)) :
    Ties w I n (DataW.insert (.int .i64 k, d) (es.filter fun p => !p.1.sameKey (.int .i64 k))) (putS l k o) := by
  induction h with
  | nil => exact .cons ht .nil
  | @cons p q es l hp hr ih =>
    obtain ⟨j, u⟩ := q
    obtain ⟨h1, h2⟩ := List.pairwise_cons.1 hu
    have hp1 : p.1 = .int .i64 j := hp.1
    rw [List.filter_cons, hp1, same_int]
    unfold putS
    by_cases c1 : k < j
    · rw [if_pos c1, decide_eq_false (by omega), hr.none_same k (fun x hx => by have : j < x.1 := h1 x hx; omega)]
      show Ties w I n (DataW.insert _ (p :: es)) _
      unfold DataW.insert
      rw [hp1, before_int, decide_eq_true c1]
      exact .cons ht (.cons hp hr)
    · by_cases c2 : k = j
      · rw [if_neg c1, if_pos c2, decide_eq_true c2.symm, hr.none_same k (fun x hx => by have : j < x.1 := h1 x hx; omega)]
        show Ties w I n (DataW.insert _ es) _
        rw [hr.insert_front k d (fun x hx => by have : j < x.1 := h1 x hx; omega)]
        exact .cons ht hr
      · rw [if_neg c1, if_neg c2, decide_eq_false (fun e => c2 e.symm)]
        show Ties w I n (DataW.insert _ (p :: _)) _
        unfold DataW.insert
        rw [hp1, before_int, decide_eq_false (by omega)]
        exact .cons hp (ih h2)

theorem atKey_map (es : List (Lit × DataW Unit)) (k : Lit) (z : DataW Unit) : (DataW.map es).atKey k z = ((es.find? (fun p => p.1.sameKey k)).map (·.2)).getD z := by
  unfold DataW.atKey
  simp only
  split
  · rename_i h; rw [h]; rfl
  · rename_i h; rw [h]; rfl

theorem Ties.get_yes {w : World} {I : Nat → Prop} {n : Nat} {es : List (Lit × DataW Unit)} {l : Sl} (h : Ties w I n es l) (k : Int) (o : Option (List Int)) (hg : getS l k = some o) :
    Maps.has (.map es) (.int .i64 k) = true ∧ ∃ d, (∀ z, (DataW.map es).atKey (.int .i64 k) z = d) ∧ Tie w I n (.int .i64 k, d) (k, o) := by
  induction h with
  | nil => cases hg
  | @cons p q es l hp hr ih =>
    obtain ⟨j, u⟩ := q
    have hp1 : p.1 = .int .i64 j := hp.1
    unfold getS at hg
    rw [Maps.has_eq, List.any_cons, hp1, same_int]
    by_cases c : j = k
    · subst c
      rw [if_pos rfl] at hg
      injection hg with hg
      subst hg
      refine ⟨by simp, p.2, fun z => ?_, by rw [← hp1]; exact hp⟩
      rw [atKey_map, List.find?_cons, hp1, same_int]
      simp
    · rw [if_neg c] at hg
      obtain ⟨h1, d, h2, h3⟩ := ih hg
      rw [Maps.has_eq] at h1
      refine ⟨by rw [h1]; simp, d, fun z => ?_, h3⟩
      rw [atKey_map, List.find?_cons, hp1, same_int, decide_eq_false c, ← h2 z, atKey_map]
theorem Ties.get_no {w : World} {I : Nat → Prop} {n : Nat} {es : List (Lit × DataW Unit)} {l : Sl} (h : Ties w I n es l) (k : Int) (hg : getS l k = none) :
    Maps.has (.map es) (.int .i64 k) = false ∧ ∀ z, (DataW.map es).atKey (.int .i64 k) z = z := by
  induction h with
  | nil => exact ⟨rfl, fun _ => rfl⟩
  | @cons p q es l hp hr ih =>
    obtain ⟨j, u⟩ := q
    have hp1 : p.1 = .int .i64 j := hp.1
    unfold getS at hg
    rw [Maps.has_eq, List.any_cons, hp1, same_int]
    by_cases c : j = k
    · rw [if_pos c] at hg; cases hg
    · rw [if_neg c] at hg
      obtain ⟨h1, h2⟩ := ih hg
      rw [Maps.has_eq] at h1
      refine ⟨by rw [h1]; simp [c], fun z => ?_⟩
      rw [atKey_map, List.find?_cons, hp1, same_int, decide_eq_false c]
      have := h2 z
      rw [atKey_map] at this
      exact this

/-- The rows of a list stay, where no map or other block of the call's own is a row. -/
theorem Tie.out {S : Nat → Prop} {w w' : World} {I : Nat → Prop} {n : Nat} {p : Lit × DataW Unit} {q : Int × Option (List Int)} (h : Tie w I n p q) (t : TurnsIn S w w') (hS : ∀ b, S b → I b → ∀ cs f, w.heap[b]? ≠ some (.cells cs 5 f)) : Tie w' I n p q := by
  obtain ⟨h1, h2⟩ := h
  refine ⟨h1, ?_⟩
  cases hq : q.2 with
  | none => rw [hq] at h2; exact h2
  | some xs =>
    rw [hq] at h2
    obtain ⟨g, c, e1, e2, e3, eI, e4⟩ := h2
    refine ⟨g, c, e1, e2, e3, eI, e4.out t fun x hx hs => ?_⟩
    have hxg : g = x := by simpa [Value.ownBlock] using hx
    subst hxg
    rcases e4.2 with ⟨h0, _⟩ | ⟨g', cap, cur, he, _, hg, _⟩
    · cases h0
    · injection he with he _
      injection he with he
      injection he with he
      exact hS g hs eI _ _ (he ▸ hg)
theorem Ties.out {S : Nat → Prop} {w w' : World} {I : Nat → Prop} {n : Nat} {es : List (Lit × DataW Unit)} {l : Sl} (h : Ties w I n es l) (t : TurnsIn S w w') (hS : ∀ b, S b → I b → ∀ cs f, w.heap[b]? ≠ some (.cells cs 5 f)) : Ties w' I n es l := by
  induction h with
  | nil => exact .nil
  | cons hp _ ih => exact .cons (hp.out t hS) ih
theorem Tie.mono {w : World} {I J : Nat → Prop} {n : Nat} {p : Lit × DataW Unit} {q : Int × Option (List Int)} (h : Tie w I n p q) (hJ : ∀ g, g < w.heap.size → I g → J g) : Tie w J n p q := by
  obtain ⟨h1, h2⟩ := h
  refine ⟨h1, ?_⟩
  cases hq : q.2 with
  | none => rw [hq] at h2; exact h2
  | some xs =>
    rw [hq] at h2
    obtain ⟨g, c, e1, e2, e3, eI, e4⟩ := h2
    exact ⟨g, c, e1, e2, e3, hJ g (e4.lt g rfl).2 eI, e4⟩
theorem Ties.mono {w : World} {I J : Nat → Prop} {n : Nat} {es : List (Lit × DataW Unit)} {l : Sl} (h : Ties w I n es l) (hJ : ∀ g, g < w.heap.size → I g → J g) : Ties w J n es l := by
  induction h with
  | nil => exact .nil
  | cons hp _ ih => exact .cons (hp.mono hJ) ih
end Go.Proofs.YtpnodocjpedcmaaDoor.Sec

namespace Go.Proofs.YtpnodocjpedcmaaDoor.Sec
open Go.ChangeShapes Go.WideShapes Go.ChangeAt Go.RowKit Go.Proofs.YtpnodocjpedcmaaDoor.Kit Go.Maps

theorem len_ok {n : Nat} (h : n < 1000000000) : n < maxLen := by unfold maxLen; omega
theorem keyI : Keyed Tryd.prog 3 := int_keyed Tryd.underlying3
theorem key_of {k : Int} (h : -9223372036854775808 ≤ k ∧ k ≤ 9223372036854775807) : keyOf Tryd.prog 3 (.int .i64 k) = some (.int .i64 k) :=
  keyOf_int_mk Tryd.underlying3 (WalkArith.wf_i64 h)
theorem zeroW (w : World) : (zeroValue 22).run Tryd.prog w = .ok (.slice none 0 0) w := by kernel_rfl
theorem zeroK (w : World) : (zeroValue 103).run Tryd.prog w = .ok (.agg #[.slice none 0 0, .bool false]) w := by kernel_rfl
theorem RW_zero : RW (.slice none 0 0) = some (.lit (.bool false), []) := rfl
theorem RK_zero : RK (.agg #[.slice none 0 0, .bool false]) = some (.lit (.bool false), []) := rfl

/-- Block b is a map of these sectors, all of n bytes. -/
def MapAt (w : World) (I : Nat → Prop) (R : Value → Option (DataW Unit × List MemPlace)) (b n : Nat) (l : Sl) : Prop :=
  ∃ es, w.ownsMap Tryd.prog 3 R b l.length (.map es) ∧ Ties w I n es l
theorem MapAt.mono {w : World} {I J : Nat → Prop} {R : Value → Option (DataW Unit × List MemPlace)} {b n : Nat} {l : Sl} (h : MapAt w I R b n l) (hJ : ∀ g, g < w.heap.size → I g → J g) : MapAt w J R b n l := by
  obtain ⟨es, h1, h2⟩ := h
  exact ⟨es, h1, h2.mono hJ⟩
theorem MapAt.lt {w : World} {I : Nat → Prop} {R : Value → Option (DataW Unit × List MemPlace)} {b n : Nat} {l : Sl} (h : MapAt w I R b n l) : b < w.heap.size := by
  obtain ⟨es, h1, _⟩ := h
  exact h1.lt
theorem MapAt.no_row {w : World} {I : Nat → Prop} {R : Value → Option (DataW Unit × List MemPlace)} {b n : Nat} {l : Sl} (h : MapAt w I R b n l) (cs : Array Value) (t : TypeId) (f : Nat × Nat) : w.heap[b]? ≠ some (.cells cs t f) := by
  obtain ⟨es, ⟨e1, c1, h1, _⟩, _⟩ := h
  rw [h1]
  intro e
  injection e with e
  cases e
theorem ownsMap_tight {w : World} {R : Value → Option (DataW Unit × List MemPlace)} {b n : Nat} {es : List (Lit × DataW Unit)} (h : w.ownsMap Tryd.prog 3 R b n (.map es)) : w.ownsMap Tryd.prog 3 R b es.length (.map es) := by
  obtain ⟨e1, c1, h1, F, hs, hD⟩ := h
  refine ⟨e1, c1, h1, F, ?_, hD⟩
  injection hD with hD
  rw [hD, length_sorted]
  simp
theorem MapAt.of {w : World} {I : Nat → Prop} {R : Value → Option (DataW Unit × List MemPlace)} {b n N : Nat} {es : List (Lit × DataW Unit)} {l : Sl} (h : w.ownsMap Tryd.prog 3 R b N (.map es)) (t : Ties w I n es l) : MapAt w I R b n l := by
  refine ⟨es, ?_, t⟩
  have := ownsMap_tight h
  rw [t.length] at this
  exact this
theorem MapAt.made (w : World) (I : Nat → Prop) (R : Value → Option (DataW Unit × List MemPlace)) (n : Nat) : MapAt (w.alloc (.map #[] 0)) I R w.heap.size n [] :=
  ⟨[], World.ownsMap_made _ _ _ _, .nil⟩
/-- A map stays while other blocks, none of them a row of bytes, turn. -/
theorem MapAt.out {S : Nat → Prop} {w w' : World} {I : Nat → Prop} {R : Value → Option (DataW Unit × List MemPlace)} {b n : Nat} {l : Sl} (h : MapAt w I R b n l) (t : TurnsIn S w w') (hb : ¬ S b) (hS : ∀ b, S b → I b → ∀ cs f, w.heap[b]? ≠ some (.cells cs 5 f)) : MapAt w' I R b n l := by
  obtain ⟨es, ⟨e1, c1, h1, r⟩, h2⟩ := h
  exact ⟨es, ⟨e1, c1, (t.block b (Array.getElem?_eq_some_iff.1 h1).1 hb).trans h1, r⟩, h2.out t hS⟩

/-- The block of a row of bytes is no map. -/
theorem row_not_map {w : World} {I : Nat → Prop} {R : Value → Option (DataW Unit × List MemPlace)} {b n : Nat} {l : Sl} (h : MapAt w I R b n l) : ∀ x, x = b → ∀ cs f, w.heap[x]? ≠ some (.cells cs 5 f) := by
  rintro x rfl cs f
  exact h.no_row cs _ f

section
variable {w : World} {I : Nat → Prop} {b n : Nat} {l : Sl}

theorem MapAt.look_yes (h : MapAt w I RW b n l) (k : Int) (hk : -9223372036854775808 ≤ k ∧ k ≤ 9223372036854775807) (xs : List Int) (hg : getS l k = some (some xs)) (c : Bool) :
    ∃ g m, (Instr.lookup 89 (.map (some b)) (.int .i64 k) c).run Tryd.prog w = .ok (if c then .tuple #[.slice (some ⟨g, 0, none⟩) n m, .bool true] else .slice (some ⟨g, 0, none⟩) n m) w ∧ xs.length = n ∧ Octets xs ∧ I g ∧ Own w 0 5 .u8 (.slice (some ⟨g, 0, none⟩) n m) xs := by
  obtain ⟨es, h1, h2⟩ := h
  obtain ⟨a1, d, a2, _, a3⟩ := h2.get_yes k _ hg
  obtain ⟨g, m, e1, e2, e3, eI, e4⟩ := a3
  obtain ⟨v, ps, hr, hv⟩ := h1.look_ok keyI Tryd.underlying89 (zeroW w) RW_zero (key_of hk)
  obtain ⟨v', ps', hr', hv'⟩ := h1.lookup keyI Tryd.underlying89 (zeroW w) RW_zero (key_of hk)
  rw [a2] at hv hv'
  change d = codeS g n m at e1
  subst e1
  obtain rfl := RW_some hv
  obtain rfl := RW_some hv'
  refine ⟨g, m, ?_, e2, e3, eI, e4⟩
  cases c with
  | true => rw [hr, a1]; rfl
  | false => rw [hr']; rfl
theorem MapAt.look_no (h : MapAt w I RW b n l) (k : Int) (hk : -9223372036854775808 ≤ k ∧ k ≤ 9223372036854775807) (hg : getS l k = none) :
    (Instr.lookup 89 (.map (some b)) (.int .i64 k) true).run Tryd.prog w = .ok (.tuple #[.slice none 0 0, .bool false]) w := by
  obtain ⟨es, h1, h2⟩ := h
  obtain ⟨a1, a2⟩ := h2.get_no k hg
  obtain ⟨v, ps, hr, hv⟩ := h1.look_ok keyI Tryd.underlying89 (zeroW w) RW_zero (key_of hk)
  rw [a2] at hv
  obtain rfl := RW_none hv
  rw [hr, a1]
theorem MapAt.kept_yes (h : MapAt w I RK b n l) (k : Int) (hk : -9223372036854775808 ≤ k ∧ k ≤ 9223372036854775807) (xs : List Int) (hg : getS l k = some (some xs)) :
    ∃ g m, (Instr.lookup 88 (.map (some b)) (.int .i64 k) true).run Tryd.prog w = .ok (.tuple #[.agg #[.slice (some ⟨g, 0, none⟩) n m, .bool false], .bool true]) w ∧ xs.length = n ∧ Octets xs ∧ I g ∧ Own w 0 5 .u8 (.slice (some ⟨g, 0, none⟩) n m) xs := by
  obtain ⟨es, h1, h2⟩ := h
  obtain ⟨a1, d, a2, _, a3⟩ := h2.get_yes k _ hg
  obtain ⟨g, m, e1, e2, e3, eI, e4⟩ := a3
  obtain ⟨v, ps, hr, hv⟩ := h1.look_ok keyI Tryd.underlying88 (zeroK w) RK_zero (key_of hk)
  rw [a2] at hv
  change d = codeS g n m at e1
  subst e1
  obtain rfl := RK_some hv
  exact ⟨g, m, by rw [hr, a1], e2, e3, eI, e4⟩
theorem MapAt.kept_torn (h : MapAt w I RK b n l) (k : Int) (hk : -9223372036854775808 ≤ k ∧ k ≤ 9223372036854775807) (hg : getS l k = some none) :
    (Instr.lookup 88 (.map (some b)) (.int .i64 k) true).run Tryd.prog w = .ok (.tuple #[.agg #[.slice none 0 0, .bool true], .bool true]) w := by
  obtain ⟨es, h1, h2⟩ := h
  obtain ⟨a1, d, a2, _, a3⟩ := h2.get_yes k _ hg
  change d = .lit (.bool true) at a3
  obtain ⟨v, ps, hr, hv⟩ := h1.look_ok keyI Tryd.underlying88 (zeroK w) RK_zero (key_of hk)
  rw [a2, a3] at hv
  obtain rfl := RK_lit hv
  rw [hr, a1]
theorem MapAt.kept_no (h : MapAt w I RK b n l) (k : Int) (hk : -9223372036854775808 ≤ k ∧ k ≤ 9223372036854775807) (hg : getS l k = none) :
    (Instr.lookup 88 (.map (some b)) (.int .i64 k) true).run Tryd.prog w = .ok (.tuple #[.agg #[.slice none 0 0, .bool false], .bool false]) w := by
  obtain ⟨es, h1, h2⟩ := h
  obtain ⟨a1, a2⟩ := h2.get_no k hg
  obtain ⟨v, ps, hr, hv⟩ := h1.look_ok keyI Tryd.underlying88 (zeroK w) RK_zero (key_of hk)
  rw [a2] at hv
  obtain rfl := RK_lit hv
  rw [hr, a1]

/-- A value that an entry may hold. -/
def GoodV (w : World) (I : Nat → Prop) (R : Value → Option (DataW Unit × List MemPlace)) (n : Nat) (v : Value) (o : Option (List Int)) : Prop := ∃ d, R v = some (d, []) ∧ ∀ k, Tie w I n (.int .i64 k, d) (k, o)
theorem GoodV.waits {w : World} {I : Nat → Prop} {n g m : Nat} {xs : List Int} (hI : I g) (hl : xs.length = n) (ho : Octets xs) (h : Own w 0 5 .u8 (.slice (some ⟨g, 0, none⟩) n m) xs) : GoodV w I RW n (.slice (some ⟨g, 0, none⟩) n m) (some xs) :=
  ⟨codeS g n m, rfl, fun _ => ⟨rfl, g, m, rfl, hl, ho, hI, h⟩⟩
theorem GoodV.kept {w : World} {I : Nat → Prop} {n g m : Nat} {xs : List Int} (hI : I g) (hl : xs.length = n) (ho : Octets xs) (h : Own w 0 5 .u8 (.slice (some ⟨g, 0, none⟩) n m) xs) : GoodV w I RK n (.agg #[.slice (some ⟨g, 0, none⟩) n m, .bool false]) (some xs) :=
  ⟨codeS g n m, rfl, fun _ => ⟨rfl, g, m, rfl, hl, ho, hI, h⟩⟩
theorem GoodV.torn {w : World} {I : Nat → Prop} {n : Nat} : GoodV w I RK n (.agg #[.slice none 0 0, .bool true]) none :=
  ⟨.lit (.bool true), rfl, fun _ => ⟨rfl, rfl⟩⟩

theorem MapAt.store {R : Value → Option (DataW Unit × List MemPlace)} {t e : TypeId} (ht : Tryd.prog.underlying t = some (.map 3 e)) (h : MapAt w I R b n l) (hu : Up l) (hm : l.length < 1000000000) (k : Int) (hk : -9223372036854775808 ≤ k ∧ k ≤ 9223372036854775807) (v : Value) (o : Option (List Int)) (hv : GoodV w I R n v o) :
    ∃ w', (Instr.mapUpdate t (.map (some b)) (.int .i64 k) v).run Tryd.prog w = .ok () w' ∧ MapAt w' I R b n (putS l k o) ∧ w.mapTurned w' b := by
  have h' := h
  obtain ⟨es, h1, h2⟩ := h
  obtain ⟨d, hd, htie⟩ := hv
  obtain ⟨w', hr, ho, ht'⟩ := h1.store keyI ht (len_ok hm) (key_of hk) hd
  have tn : TurnsIn (fun x => x = b) w w' := TurnsIn.ofGrown (row := some b) ht'.grown fun x hx => (Option.some.inj hx).symm
  refine ⟨w', hr, MapAt.of ho ?_, ht'⟩
  exact (h2.put hu k d o (htie k)).out tn (fun x hx _ cs f => row_not_map h' x hx cs f)
end
end Go.Proofs.YtpnodocjpedcmaaDoor.Sec

namespace Go.Proofs.YtpnodocjpedcmaaDoor.Sec
open Go.ChangeShapes Go.WideShapes Go.ChangeAt Go.RowKit Go.Proofs.YtpnodocjpedcmaaDoor.Kit Go.Maps

/-- A device. -/
structure Dv where
  size : Nat
  count : Nat
  kept : Sl
  waits : Sl
  off : Bool
  offs : Int
  fuse : Int
  wr : Int
structure Dv.Ok (s : Dv) : Prop where
  s1 : 128 ≤ s.size
  s2 : s.size ≤ 4096
  c1 : 1 ≤ s.count
  c2 : s.count ≤ 1048576
  ku : Up s.kept
  wu : Up s.waits
  kr : ∀ p ∈ s.kept, 0 ≤ p.1 ∧ p.1 < s.count
  wr_ : ∀ p ∈ s.waits, 0 ≤ p.1 ∧ p.1 < s.count
  wn : ∀ p ∈ s.waits, p.2 ≠ none
  f1 : -1 ≤ s.fuse
  f2 : s.fuse ≤ 9223372036854775807
  o1 : 0 ≤ s.offs
  w1 : 0 ≤ s.wr
def Dv.cells (s : Dv) (mk mw : Nat) : Array Value :=
  #[.int .i64 s.size, .int .i64 s.count, .map (some mk), .map (some mw), .bool s.off, .int .i64 s.offs, .int .i64 s.fuse, .int .u64 s.wr]
/-- A device lies in memory: itself in a, what is kept in mk, what waits in mw; its rows of bytes lie in blocks of I. -/
structure DvAt (w : World) (I : Nat → Prop) (a mk mw : Nat) (s : Dv) : Prop where
  blk : Block w a 91 (s.cells mk mw)
  k : MapAt w I RK mk s.size s.kept
  wt : MapAt w I RW mw s.size s.waits
  ne : mk ≠ mw
  ok : s.Ok
/-- A device's blocks. -/
def DSet (a mk mw b : Nat) : Prop := b = a ∨ b = mk ∨ b = mw

section
variable {w w' : World} {I J : Nat → Prop} {a mk mw : Nat} {s : Dv}
theorem DvAt.lt (h : DvAt w I a mk mw s) : a < w.heap.size ∧ mk < w.heap.size ∧ mw < w.heap.size := ⟨h.blk.lt, h.k.lt, h.wt.lt⟩
theorem DvAt.mono (h : DvAt w I a mk mw s) (hJ : ∀ g, g < w.heap.size → I g → J g) : DvAt w J a mk mw s := ⟨h.blk, h.k.mono hJ, h.wt.mono hJ, h.ne, h.ok⟩
theorem DvAt.no_row (h : DvAt w I a mk mw s) : ∀ b, DSet a mk mw b → ∀ cs f, w.heap[b]? ≠ some (.cells cs 5 f) := by
  rintro b (rfl | rfl | rfl) cs f
  · intro e
    have := h.blk
    unfold Block at this
    rw [this] at e
    injection e with e
    injection e with _ e _
    exact absurd e (by decide)
  · exact h.k.no_row _ _ _
  · exact h.wt.no_row _ _ _
theorem DvAt.ne_k (h : DvAt w I a mk mw s) : a ≠ mk := by
  rintro rfl
  exact h.k.no_row _ _ _ h.blk
theorem DvAt.ne_w (h : DvAt w I a mk mw s) : a ≠ mw := by
  rintro rfl
  exact h.wt.no_row _ _ _ h.blk
/-- It stays while other blocks turn. -/
theorem DvAt.out {S : Nat → Prop} (h : DvAt w I a mk mw s) (t : TurnsIn S w w') (h1 : ¬ S a) (h2 : ¬ S mk) (h3 : ¬ S mw) (hS : ∀ b, S b → I b → ∀ cs f, w.heap[b]? ≠ some (.cells cs 5 f)) : DvAt w' I a mk mw s :=
  ⟨h.blk.out t h1, h.k.out t h2 hS, h.wt.out t h3 hS, h.ne, h.ok⟩
theorem DvAt.below (h : DvAt w I a mk mw s) (hb : Below w.heap.size w w') : DvAt w' I a mk mw s :=
  h.out (S := fun _ => False) (.ofNew hb) id id id fun _ hf => hf.elim
theorem DvAt.alloc (h : DvAt w I a mk mw s) (o : Obj) : DvAt (w.alloc o) I a mk mw s := h.below ((Below.refl _ _).alloc (Nat.le_refl _) _)
/-- A field is stored. -/
theorem DvAt.field (h : DvAt w I a mk mw s) (i : Nat) (u : Value) (s' : Dv) (hc : (s.cells mk mw).setIfInBounds i u = s'.cells mk mw) (hk : s'.kept = s.kept) (hw : s'.waits = s.waits) (hs : s'.size = s.size) (ok : s'.Ok) :
    DvAt (w.setCell ⟨a, i, none⟩ u) I a mk mw s' ∧ TurnsIn (DSet a mk mw) w (w.setCell ⟨a, i, none⟩ u) := by
  have t : TurnsIn (fun b => b = a) w (w.setCell ⟨a, i, none⟩ u) := TurnsIn.setCell (S := fun b => b = a) (p := ⟨a, i, none⟩) (TurnsIn.refl _ w) (Or.inl rfl) u
  have hr : ∀ b, b = a → I b → ∀ cs f, w.heap[b]? ≠ some (.cells cs 5 f) := fun b hb _ => h.no_row b (Or.inl hb)
  refine ⟨⟨by rw [← hc]; exact h.blk.set_ i u, ?_, ?_, h.ne, ok⟩, t.mono fun b _ hb => Or.inl hb⟩
  · rw [hk, hs]; exact h.k.out t (fun e => h.ne_k e.symm) hr
  · rw [hw, hs]; exact h.wt.out t (fun e => h.ne_w e.symm) hr
/-- The cells, to be read. -/
theorem DvAt.reads (h : DvAt w I a mk mw s) :
    w.cell? ⟨a, 0, none⟩ = some (.int .i64 s.size) ∧ w.cell? ⟨a, 1, none⟩ = some (.int .i64 s.count) ∧ w.cell? ⟨a, 2, none⟩ = some (.map (some mk)) ∧ w.cell? ⟨a, 3, none⟩ = some (.map (some mw)) ∧ w.cell? ⟨a, 4, none⟩ = some (.bool s.off) ∧ w.cell? ⟨a, 5, none⟩ = some (.int .i64 s.offs) ∧ w.cell? ⟨a, 6, none⟩ = some (.int .i64 s.fuse) ∧ w.cell? ⟨a, 7, none⟩ = some (.int .u64 s.wr) :=
  ⟨h.blk.cell 0, h.blk.cell 1, h.blk.cell 2, h.blk.cell 3, h.blk.cell 4, h.blk.cell 5, h.blk.cell 6, h.blk.cell 7⟩
theorem DvAt.free (h : DvAt w I a mk mw s) (i : Nat) : w.frozen? ⟨a, i, none⟩ = false := h.blk.frozen i
end

/-! ### methods that read -/
theorem size_any (I : Nat → Prop) (a mk mw : Nat) (s : Dv) (w : World) (h : DvAt w I a mk mw s) : Calls Tryd.prog 57 #[.pointer (some ⟨a, 0, none⟩)] w fun e w' => e = .returned (.int .i64 s.size) ∧ w = w' := by
  obtain ⟨c0, c1, c2, c3, c4, c5, c6, c7⟩ := h.reads
  clear h
  go_enter Tryd.func57, Tryd.ntmps57
  go_wp2
  go_ret
  exact ⟨rfl, rfl⟩
theorem count_any (I : Nat → Prop) (a mk mw : Nat) (s : Dv) (w : World) (h : DvAt w I a mk mw s) : Calls Tryd.prog 58 #[.pointer (some ⟨a, 0, none⟩)] w fun e w' => e = .returned (.int .i64 s.count) ∧ w = w' := by
  obtain ⟨c0, c1, c2, c3, c4, c5, c6, c7⟩ := h.reads
  clear h
  go_enter Tryd.func58, Tryd.ntmps58
  go_wp2
  go_ret
  exact ⟨rfl, rfl⟩
theorem isOn_any (I : Nat → Prop) (a mk mw : Nat) (s : Dv) (w : World) (h : DvAt w I a mk mw s) : Calls Tryd.prog 41 #[.pointer (some ⟨a, 0, none⟩)] w fun e w' => e = .returned (.bool (!s.off)) ∧ w = w' := by
  obtain ⟨c0, c1, c2, c3, c4, c5, c6, c7⟩ := h.reads
  clear h
  go_enter Tryd.func41, Tryd.ntmps41
  go_wp2
  go_ret
  exact ⟨rfl, rfl⟩
theorem writes_any (I : Nat → Prop) (a mk mw : Nat) (s : Dv) (w : World) (h : DvAt w I a mk mw s) : Calls Tryd.prog 32 #[.pointer (some ⟨a, 0, none⟩)] w fun e w' => e = .returned (.int .u64 s.wr) ∧ w = w' := by
  obtain ⟨c0, c1, c2, c3, c4, c5, c6, c7⟩ := h.reads
  clear h
  go_enter Tryd.func32, Tryd.ntmps32
  go_wp2
  go_ret
  exact ⟨rfl, rfl⟩
theorem MapAt.len {w : World} {I : Nat → Prop} {R : Value → Option (DataW Unit × List MemPlace)} {b n : Nat} {l : Sl} {t e : TypeId} (ht : Tryd.prog.underlying t = some (.map 3 e)) (h : MapAt w I R b n l) (ty : TypeId) : (Builtin.len_ #[t] ty #[.map (some b)]).run Tryd.prog w = .ok (.int .i64 l.length) w := by
  obtain ⟨es, h1, h2⟩ := h
  rw [h1.len ht ty, ← h2.length]
  rfl
theorem waits_any (I : Nat → Prop) (a mk mw : Nat) (s : Dv) (w : World) (h : DvAt w I a mk mw s) : Calls Tryd.prog 31 #[.pointer (some ⟨a, 0, none⟩)] w fun e w' => e = .returned (.int .i64 s.waits.length) ∧ w = w' := by
  obtain ⟨c0, c1, c2, c3, c4, c5, c6, c7⟩ := h.reads
  have hl := fun ty => h.wt.len Tryd.underlying89 ty
  clear h
  go_enter Tryd.func31, Tryd.ntmps31
  go_wp2
  go_ret
  exact ⟨rfl, rfl⟩
end Go.Proofs.YtpnodocjpedcmaaDoor.Sec

namespace Go.Proofs.YtpnodocjpedcmaaDoor.Sec
open Go.ChangeShapes Go.WideShapes Go.ChangeAt Go.RowKit Go.Proofs.YtpnodocjpedcmaaDoor.Kit Go.Maps

/-- It goes off. -/
def Dv.down (s : Dv) : Dv := if s.off = true then s else { s with off := true, offs := s.offs + 1 }
/-- A call counted of the fuse. -/
def Dv.tick (s : Dv) : Dv := if s.fuse = -1 then s else if s.fuse = 0 then s.down else { s with fuse := s.fuse - 1 }
def Dv.blown (s : Dv) : Bool := decide (s.fuse = 0)
def Dv.fused (s : Dv) (n : Int) : Dv := { s with fuse := max n 0 }
theorem Dv.Ok.down {s : Dv} (h : s.Ok) : s.down.Ok := by
  unfold Dv.down
  split
  · exact h
  · exact ⟨h.s1, h.s2, h.c1, h.c2, h.ku, h.wu, h.kr, h.wr_, h.wn, h.f1, h.f2, by have := h.o1; show 0 ≤ s.offs + 1; omega, h.w1⟩
/-- What a step leaves of a device: it lies where it lay, and only its own blocks have turned. -/
def Leaves (I : Nat → Prop) (a mk mw : Nat) (w : World) (s' : Dv) (v : Value) (e : Ending) (w' : World) : Prop :=
  e = .returned v ∧ DvAt w' I a mk mw s' ∧ TurnsIn (DSet a mk mw) w w'

set_option maxHeartbeats 1600000 in
theorem off_any (I : Nat → Prop) (a mk mw : Nat) (s : Dv) (w : World) (h : DvAt w I a mk mw s) (hb : s.offs ≤ 1000000000) :
    Calls Tryd.prog 20 #[.pointer (some ⟨a, 0, none⟩)] w (Leaves I a mk mw w s.down (.tuple #[])) := by
  have GI := Lib.hid (isOn_any I a mk mw s w h)
  have ho := h.ok.o1
  have hh := h.ok
  unfold Dv.down
  cases hoff : s.off with
  | true =>
    rw [if_pos rfl]
    rw [hoff] at GI
    clear ho hh hb
    go_enter Tryd.func20, Tryd.ntmps20
    go_wp2_with (go_at_call 41; (with_reducible refine GI.out.mono ?_); rintro e w1 ⟨rfl, rfl⟩)
    exact bodyPost_end (results_none rfl _ _ _) rfl ⟨rfl, h, TurnsIn.refl _ _⟩
  | false =>
    rw [if_neg (by decide)]
    rw [hoff] at GI
    have H1 := h.field 4 (.bool true) { s with off := true } rfl rfl rfl rfl ⟨hh.s1, hh.s2, hh.c1, hh.c2, hh.ku, hh.wu, hh.kr, hh.wr_, hh.wn, hh.f1, hh.f2, hh.o1, hh.w1⟩
    obtain ⟨D1, T1⟩ := H1
    have H2 := D1.field 5 (.int .i64 (s.offs + 1)) { s with off := true, offs := s.offs + 1 } rfl rfl rfl rfl ⟨hh.s1, hh.s2, hh.c1, hh.c2, hh.ku, hh.wu, hh.kr, hh.wr_, hh.wn, hh.f1, hh.f2, by show 0 ≤ s.offs + 1; omega, hh.w1⟩
    obtain ⟨D2, T2⟩ := H2
    obtain ⟨c0, c1, c2, c3, c4, c5, c6, c7⟩ := h.reads
    obtain ⟨d0, d1, d2, d3, d4, d5, d6, d7⟩ := D1.reads
    have f4 := h.free 4
    have f5 := D1.free 5
    have HD := Lib.hid D2
    have HT := Lib.hid (T1.trans T2)
    simp only at d0 d1 d2 d3 d4 d5 d6 d7
    clear hh h D1 T1 D2 T2 hoff
    go_enter Tryd.func20, Tryd.ntmps20
    go_wp2_with (go_at_call 41; (with_reducible refine GI.out.mono ?_); rintro e w1 ⟨rfl, rfl⟩)
    exact bodyPost_end (results_none rfl _ _ _) rfl ⟨rfl, HD.out, HT.out⟩

set_option maxHeartbeats 1600000 in
theorem fuse_any (I : Nat → Prop) (a mk mw : Nat) (s : Dv) (n : Int) (w : World) (h : DvAt w I a mk mw s) (hn : -9223372036854775808 ≤ n ∧ n ≤ 9223372036854775807) :
    Calls Tryd.prog 23 #[.pointer (some ⟨a, 0, none⟩), .int .i64 n] w (Leaves I a mk mw w (s.fused n) (.tuple #[])) := by
  have hh := h.ok
  unfold Dv.fused
  have H1 := h.field 6 (.int .i64 (max n 0)) { s with fuse := max n 0 } rfl rfl rfl rfl ⟨hh.s1, hh.s2, hh.c1, hh.c2, hh.ku, hh.wu, hh.kr, hh.wr_, hh.wn, by show -1 ≤ max n 0; omega, by show max n 0 ≤ _; omega, hh.o1, hh.w1⟩
  obtain ⟨D1, T1⟩ := H1
  obtain ⟨c0, c1, c2, c3, c4, c5, c6, c7⟩ := h.reads
  have f6 := h.free 6
  have HD := Lib.hid D1
  have HT := Lib.hid T1
  clear hh h D1 T1
  rcases (by omega : 0 ≤ n ∨ n < 0) with hn0 | hn0
  · rw [show max n 0 = n by omega] at HD HT ⊢
    go_enter Tryd.func23, Tryd.ntmps23
    go_wp2
    exact bodyPost_end (results_none rfl _ _ _) rfl ⟨rfl, HD.out, HT.out⟩
  · rw [show max n 0 = 0 by omega] at HD HT ⊢
    have hn1 : ¬ 0 ≤ n := by omega
    go_enter Tryd.func23, Tryd.ntmps23
    go_wp2
    exact bodyPost_end (results_none rfl _ _ _) rfl ⟨rfl, HD.out, HT.out⟩

set_option maxHeartbeats 1600000 in
theorem blows_any (I : Nat → Prop) (a mk mw : Nat) (s : Dv) (w : World) (h : DvAt w I a mk mw s) (hb : s.offs ≤ 1000000000) :
    Calls Tryd.prog 43 #[.pointer (some ⟨a, 0, none⟩)] w (Leaves I a mk mw w s.tick (.bool s.blown)) := by
  have hh := h.ok
  obtain ⟨c0, c1, c2, c3, c4, c5, c6, c7⟩ := h.reads
  have f6 := h.free 6
  unfold Dv.tick Dv.blown
  have hf1 := hh.f1
  have hf2 := hh.f2
  by_cases h1 : s.fuse = -1
  · rw [if_pos h1, decide_eq_false (by omega)]
    have HD := Lib.hid h
    rw [h1] at c6
    clear h hh h1
    go_enter Tryd.func43, Tryd.ntmps43
    go_wp2
    go_ret
    exact ⟨rfl, HD.out, TurnsIn.refl _ _⟩
  · rw [if_neg h1]
    by_cases h0 : s.fuse = 0
    · rw [if_pos h0, decide_eq_true h0]
      have GO := Lib.hid (off_any I a mk mw s w h hb)
      rw [h0] at c6
      clear h hh h1 h0 hf1 hf2
      generalize s.down = s1 at *
      go_enter Tryd.func43, Tryd.ntmps43
      go_wp2_with (go_at_call 20; (with_reducible refine GO.out.mono ?_); rintro e w1 ⟨rfl, hd, ht⟩)
      go_ret
      exact ⟨rfl, hd, ht⟩
    · rw [if_neg h0, decide_eq_false h0]
      have d1 : decide (s.fuse = -1) = false := decide_eq_false h1
      have d0 : decide (s.fuse = 0) = false := decide_eq_false h0
      have b1 : (s.fuse == -1) = false := by simpa using h1
      have b0 : (s.fuse == 0) = false := by simpa using h0
      have H1 := h.field 6 (.int .i64 (s.fuse - 1)) { s with fuse := s.fuse - 1 } rfl rfl rfl rfl ⟨hh.s1, hh.s2, hh.c1, hh.c2, hh.ku, hh.wu, hh.kr, hh.wr_, hh.wn, by show -1 ≤ s.fuse - 1; omega, by show s.fuse - 1 ≤ _; omega, hh.o1, hh.w1⟩
      obtain ⟨D1, T1⟩ := H1
      have HD := Lib.hid D1
      have HT := Lib.hid T1
      have hf3 : 0 < s.fuse := by omega
      clear hh h D1 T1 h1 h0 hf1
      generalize s.fuse = n at *
      go_enter Tryd.func43, Tryd.ntmps43
      go_wp2
      go_ret
      exact ⟨rfl, HD.out, HT.out⟩
end Go.Proofs.YtpnodocjpedcmaaDoor.Sec

namespace Go.Proofs.YtpnodocjpedcmaaDoor.Sec
open Go.ChangeShapes Go.WideShapes Go.ChangeAt Go.RowKit Go.Proofs.YtpnodocjpedcmaaDoor.Kit Go.Maps

theorem elem8 : IntElem Tryd.prog 22 5 .u8 1 := ⟨Tryd.underlying22, by kernel_rfl, by decide⟩

set_option maxRecDepth 100000 in
/-- slices.Clone of bytes that are not nil: a new row. -/
theorem clone_any (b off : Nat) (xs : List Int) (c : Nat) (w : World) (hx : xs.length ≤ 1000000000) (hr : Holds w w.heap.size .u8 (some ⟨b, off, none⟩) xs) :
    Calls Tryd.prog 42 #[.slice (some ⟨b, off, none⟩) xs.length c] w fun e w' => ∃ v, e = .returned v ∧ Own w' w.heap.size 5 .u8 v xs ∧ Below w.heap.size w w' := by
  have own0 : Own (w.alloc (.cells #[] 5)) w.heap.size 5 .u8 (.slice (some ⟨w.heap.size, 0, none⟩) 0 0) [] := Own.empty w 5 .u8 (Nat.le_refl _)
  have B0 : Below w.heap.size w (w.alloc (.cells #[] 5)) := (Below.refl _ _).alloc (Nat.le_refl _) _
  have hr0 := hr.below B0
  have q := fun W => Lib.run_eql_slice_nil (P := Tryd.prog) W 22 5 (some ⟨b, off, none⟩) xs.length c 0 0 Tryd.underlying22
  clear hr
  go_enter Tryd.func42, Tryd.ntmps42
  go_wp2_with (at_builtin; refine wpList_append_ints (ys := xs) _ rfl _ _ 22 rfl elem8 own0 rfl rfl hr0 (by simp; omega) B0.size ?_; intro v7 w7 own7 g7 hb7 _)
  go_ret
  exact ⟨_, rfl, own7, B0.trans hb7⟩

def Dv.new (size count : Nat) : Dv := ⟨size, count, [], [], false, 0, -1, 0⟩
theorem Dv.new_ok {size count : Nat} (h1 : 128 ≤ size) (h2 : size ≤ 4096) (h3 : 1 ≤ count) (h4 : count ≤ 1048576) : (Dv.new size count).Ok :=
  ⟨h1, h2, h3, h4, up_nil, up_nil, fun _ h => (List.not_mem_nil h).elim, fun _ h => (List.not_mem_nil h).elim, fun _ h => (List.not_mem_nil h).elim, Int.le_refl _, by show (-1 : Int) ≤ _; omega, Int.le_refl _, Int.le_refl _⟩
/-- A device that is new. -/
def NewDev (I : Nat → Prop) (s : Dv) (w : World) (e : Ending) (w' : World) : Prop :=
  ∃ a mk mw, e = .returned (.tuple #[.pointer (some ⟨a, 0, none⟩), .int .i64 0]) ∧ DvAt w' I a mk mw s ∧ Below w.heap.size w w' ∧ w.heap.size ≤ a ∧ w.heap.size ≤ mk ∧ w.heap.size ≤ mw

set_option maxHeartbeats 1600000 in
theorem new_any (I : Nat → Prop) (size count : Nat) (w : World) (h1 : 128 ≤ size) (h2 : size ≤ 4096) (h3 : 1 ≤ count) (h4 : count ≤ 1048576) :
    Calls Tryd.prog 10 #[.int .i64 size, .int .i64 count] w (NewDev I (Dv.new size count) w) := by
  have hmm := fun W t => @run_makeMap Tryd.prog W t
  go_enter Tryd.func10, Tryd.ntmps10
  go_wp2
  go_ret2
  have K1 : MapAt (w.alloc (.map #[] 0)) I RK w.heap.size size [] := MapAt.made w I RK size
  have B1 : Below w.heap.size w (w.alloc (.map #[] 0)) := (Below.refl _ _).alloc (Nat.le_refl _) _
  have z1 : (w.alloc (.map #[] 0)).heap.size = w.heap.size + 1 := by simp
  have W2 : MapAt ((w.alloc (.map #[] 0)).alloc (.map #[] 0)) I RW (w.heap.size + 1) size [] := by
    have := MapAt.made (w.alloc (.map #[] 0)) I RW size
    rw [z1] at this
    exact this
  have T2 : TurnsIn (fun _ => False) (w.alloc (.map #[] 0)) ((w.alloc (.map #[] 0)).alloc (.map #[] 0)) := (TurnsIn.refl _ _).alloc _
  have K2 := K1.out T2 id (fun _ h => h.elim)
  have z2 : ((w.alloc (.map #[] 0)).alloc (.map #[] 0)).heap.size = w.heap.size + 1 + 1 := by simp
  have B2 := B1.alloc B1.size (.map #[] 0)
  have T3 : TurnsIn (fun _ => False) ((w.alloc (.map #[] 0)).alloc (.map #[] 0)) (((w.alloc (.map #[] 0)).alloc (.map #[] 0)).alloc (.cells ((Dv.new size count).cells w.heap.size (w.heap.size + 1)) 91)) := (TurnsIn.refl _ _).alloc _
  have D3 : Block (((w.alloc (.map #[] 0)).alloc (.map #[] 0)).alloc (.cells ((Dv.new size count).cells w.heap.size (w.heap.size + 1)) 91)) (w.heap.size + 1 + 1) 91 ((Dv.new size count).cells w.heap.size (w.heap.size + 1)) := by
    have := Block.new ((w.alloc (.map #[] 0)).alloc (.map #[] 0)) 91 ((Dv.new size count).cells w.heap.size (w.heap.size + 1))
    rw [z2] at this
    exact this
  exact ⟨_, _, _, rfl, ⟨D3, K2.out T3 id (fun _ h => h.elim), W2.out T3 id (fun _ h => h.elim), by omega, Dv.new_ok h1 h2 h3 h4⟩, B2.alloc B2.size _, by omega, by omega, by omega⟩
end Go.Proofs.YtpnodocjpedcmaaDoor.Sec

namespace Go.Proofs.YtpnodocjpedcmaaDoor.Sec
open Go.ChangeShapes Go.WideShapes Go.ChangeAt Go.RowKit Go.Proofs.YtpnodocjpedcmaaDoor.Kit Go.Maps

/-- What a read gives: bytes, and the error's number. -/
def Dv.read (s : Dv) (i : Int) : List Int × Int :=
  if s.off = true then ([], 8) else if i < 0 ∨ (s.count : Int) ≤ i then ([], 5) else
  match getS s.waits i with
  | some (some xs) => (xs, 0)
  | _ => match getS s.kept i with
    | none => (List.replicate s.size 0, 0)
    | some none => ([], 7)
    | some (some xs) => (xs, 0)
def GivesB (zs : List Int) (E : Int) (w : World) (e : Ending) (w' : World) : Prop :=
  ∃ v, e = .returned (.tuple #[v, .int .i64 E]) ∧ Own w' w.heap.size 5 .u8 v zs ∧ Below w.heap.size w w'
theorem mem_getS {l : Sl} {k : Int} {o : Option (List Int)} (h : getS l k = some o) : (k, o) ∈ l := by
  induction l with
  | nil => cases h
  | cons q r ih =>
    obtain ⟨j, u⟩ := q
    unfold getS at h
    split at h
    · rename_i hj
      injection h with h
      subst hj h
      simp
    · exact List.mem_cons_of_mem _ (ih h)

set_option maxRecDepth 100000 in
set_option maxHeartbeats 3200000 in
theorem read_any (I : Nat → Prop) (a mk mw : Nat) (s : Dv) (i : Int) (w : World) (h : DvAt w I a mk mw s) (hi : -9223372036854775808 ≤ i ∧ i ≤ 9223372036854775807) :
    Calls Tryd.prog 77 #[.pointer (some ⟨a, 0, none⟩), .int .i64 i] w (GivesB (s.read i).1 (s.read i).2 w) := by
  have GI := Lib.hid (isOn_any I a mk mw s w h)
  have B0 := Below.refl w.heap.size w
  have nil_ : ∀ E, GivesB [] E w (.returned (.tuple #[.slice none 0 0, .int .i64 E])) w := fun E => ⟨_, rfl, Own.nil w w.heap.size 5 .u8, B0⟩
  have HN := Lib.hid nil_
  clear nil_
  obtain ⟨c0, c1, c2, c3, c4, c5, c6, c7⟩ := h.reads
  have hs1 := h.ok.s1
  have hs2 := h.ok.s2
  have hc2 := h.ok.c2
  unfold Dv.read
  cases hoff : s.off with
  | true =>
    rw [if_pos rfl]
    rw [hoff] at GI
    clear h
    go_enter Tryd.func77, Tryd.ntmps77
    go_wp2_with (go_at_call 41; (with_reducible refine GI.out.mono ?_); rintro e w1 ⟨rfl, rfl⟩)
    go_ret2
    exact HN.out 8
  | false =>
    rw [if_neg (by decide)]
    rw [hoff] at GI
    by_cases hlo : i < 0
    · rw [if_pos (Or.inl hlo)]
      have d1 : decide (i < 0) = true := decide_eq_true hlo
      clear h
      go_enter Tryd.func77, Tryd.ntmps77
      go_wp2_with (go_at_call 41; (with_reducible refine GI.out.mono ?_); rintro e w1 ⟨rfl, rfl⟩)
      go_ret2
      exact HN.out 5
    · have d1 : decide (i < 0) = false := decide_eq_false hlo
      by_cases hhi : (s.count : Int) ≤ i
      · rw [if_pos (Or.inr hhi)]
        have d2 : decide ((s.count : Int) ≤ i) = true := decide_eq_true hhi
        clear h
        go_enter Tryd.func77, Tryd.ntmps77
        go_wp2_with (go_at_call 41; (with_reducible refine GI.out.mono ?_); rintro e w1 ⟨rfl, rfl⟩)
        go_ret2
        exact HN.out 5
      · have d2 : decide ((s.count : Int) ≤ i) = false := decide_eq_false hhi
        rw [if_neg (by omega)]
        cases hgw : getS s.waits i with
        | some o =>
          cases o with
          | none => exact absurd rfl (h.ok.wn _ (mem_getS hgw))
          | some xs =>
            obtain ⟨g, m, hr, hxl, _, _, own⟩ := h.wt.look_yes i hi xs hgw true
            obtain ⟨A, c, he, _, _, hh⟩ := own.opened
            injection he with he1 he2 he3
            subst he1 he3
            have GC := clone_any g 0 xs m w (by omega) hh
            rw [hxl] at GC
            replace GC := Lib.hid GC
            simp only [if_true] at hr
            clear h hgw own hh he2 hxl
            go_enter Tryd.func77, Tryd.ntmps77
            go_wp2_with (first
              | (go_at_call 41; (with_reducible refine GI.out.mono ?_); rintro e w1 ⟨rfl, rfl⟩)
              | (go_at_call 42; (with_reducible refine GC.out.mono ?_); rintro e w1 ⟨v, rfl, own, hb⟩))
            go_ret2
            exact ⟨v, rfl, own, hb⟩
        | none =>
          have hrw := h.wt.look_no i hi hgw
          cases hgk : getS s.kept i with
          | none =>
            have hrk := h.k.kept_no i hi hgk
            have e0 := (h.alloc (.cells #[.slice none 0 0, .bool false] 103)).reads.1
            have B1 : Below w.heap.size w (w.alloc (.cells #[.slice none 0 0, .bool false] 103)) := (Below.refl _ _).alloc (Nat.le_refl _) _
            clear h hgw hgk
            go_enter Tryd.func77, Tryd.ntmps77
            go_wp2_with (first
              | (go_at_call 41; (with_reducible refine GI.out.mono ?_); rintro e w1 ⟨rfl, rfl⟩)
              | (refine wpList_make_ints _ rfl _ _ _ rfl elem8 s.size s.size rfl rfl rfl rfl (Nat.le_refl _) (by omega) ?_; intro w5 own5 hb5 hl5))
            go_ret2
            have o6 := own5.mono B1.size
            rw [show (w.alloc (.cells #[.slice none 0 0, .bool false] 103)).heap.size = w.heap.size + 1 by simp] at o6
            exact ⟨_, rfl, o6, B1.trans (hb5.mono B1.size)⟩
          | some o =>
            cases o with
            | none =>
              have hrk := h.k.kept_torn i hi hgk
              clear h hgw hgk
              go_enter Tryd.func77, Tryd.ntmps77
              go_wp2_with (go_at_call 41; (with_reducible refine GI.out.mono ?_); rintro e w1 ⟨rfl, rfl⟩)
              go_ret2
              exact ⟨_, rfl, Own.nil _ w.heap.size 5 .u8, (Below.refl _ _).alloc (Nat.le_refl _) _⟩
            | some xs =>
              obtain ⟨g, m, hrk, hxl, _, _, own⟩ := h.k.kept_yes i hi xs hgk
              have B1 : Below w.heap.size w (w.alloc (.cells #[.slice (some ⟨g, 0, none⟩) s.size m, .bool false] 103)) := (Below.refl _ _).alloc (Nat.le_refl _) _
              obtain ⟨A, c, he, _, _, hh⟩ := own.opened
              injection he with he1 he2 he3
              subst he1 he3
              have GC := Lib.hid (fun W (hB : Below w.heap.size w W) => clone_any g 0 xs m W (by omega) ((hh.below hB).more hB.size))
              rw [hxl] at GC
              clear h hgw hgk own hh he2 hxl
              go_enter Tryd.func77, Tryd.ntmps77
              go_wp2_with (first
                | (go_at_call 41; (with_reducible refine GI.out.mono ?_); rintro e w1 ⟨rfl, rfl⟩)
                | (go_at_call 42; (with_reducible refine (GC.out _ B1).mono ?_); rintro e w1 ⟨v, rfl, own, hb⟩))
              go_ret2
              exact ⟨v, rfl, own.mono B1.size, B1.trans (hb.mono B1.size)⟩
end Go.Proofs.YtpnodocjpedcmaaDoor.Sec

namespace Go.Proofs.YtpnodocjpedcmaaDoor.Sec
open Go.Proofs.YtpnodocjpedcmaaDoor.Kit

theorem getS_low {l : Sl} {k : Int} (h : ∀ p ∈ l, k < p.1) : getS l k = none := by
  induction l with
  | nil => rfl
  | cons q r ih =>
    obtain ⟨j, u⟩ := q
    have := h (j, u) (by simp)
    simp only at this
    unfold getS
    rw [if_neg (by omega)]
    exact ih fun p hp => h p (List.mem_cons_of_mem _ hp)
theorem getS_putS {l : Sl} (hu : Up l) (k j : Int) (o : Option (List Int)) : getS (putS l k o) j = if j = k then some o else getS l j := by
  induction l with
  | nil =>
    unfold putS getS
    by_cases c : k = j
    · rw [if_pos c, if_pos c.symm]
    · rw [if_neg c, if_neg (fun e => c e.symm)]
      rfl
  | cons q r ih =>
    obtain ⟨i, u⟩ := q
    obtain ⟨h1, h2⟩ := List.pairwise_cons.1 hu
    unfold putS
    by_cases c1 : k < i
    · rw [if_pos c1]
      conv => lhs; unfold getS
      by_cases c : k = j
      · rw [if_pos c, if_pos c.symm]
      · rw [if_neg c, if_neg (fun e => c e.symm)]
    · rw [if_neg c1]
      by_cases c2 : k = i
      · rw [if_pos c2]
        subst c2
        conv => lhs; unfold getS
        by_cases c : k = j
        · rw [if_pos c, if_pos c.symm]
        · rw [if_neg c, if_neg (fun e => c e.symm)]
          conv => rhs; unfold getS
          rw [if_neg c]
      · rw [if_neg c2]
        conv => lhs; unfold getS
        rw [ih h2]
        conv => rhs; unfold getS
        by_cases c : i = j
        · rw [if_pos c, if_pos c, if_neg (by omega)]
        · rw [if_neg c, if_neg c]
theorem getS_some {l : Sl} (hu : Up l) {p : Int × Option (List Int)} (h : p ∈ l) : getS l p.1 = some p.2 := by
  induction l with
  | nil => cases h
  | cons q r ih =>
    obtain ⟨j, u⟩ := q
    obtain ⟨h1, h2⟩ := List.pairwise_cons.1 hu
    rcases List.mem_cons.1 h with rfl | h
    · unfold getS; rw [if_pos rfl]
    · have : j < p.1 := h1 p h
      unfold getS
      rw [if_neg (by omega)]
      exact ih h2 h
theorem sl_ext : ∀ {l m : Sl}, Up l → Up m → (∀ k, getS l k = getS m k) → l = m
  | [], [], _, _, _ => rfl
  | [], q :: r, _, hm, h => by
    have := h q.1
    rw [getS_some hm (by simp)] at this
    cases this
  | q :: r, [], hl, _, h => by
    have := h q.1
    rw [getS_some hl (by simp)] at this
    cases this
  | (i, u) :: r, (j, v) :: t, hl, hm, h => by
    obtain ⟨a1, a2⟩ := List.pairwise_cons.1 hl
    obtain ⟨b1, b2⟩ := List.pairwise_cons.1 hm
    have e : i = j := by
      rcases Int.lt_trichotomy i j with c | c | c
      · have := h i
        rw [getS_low (l := (j, v) :: t) (fun p hp => by
          rcases List.mem_cons.1 hp with rfl | hp
          · exact c
          · have : j < p.1 := b1 p hp
            omega)] at this
        unfold getS at this
        rw [if_pos rfl] at this
        cases this
      · exact c
      · have := h j
        rw [getS_low (l := (i, u) :: r) (fun p hp => by
          rcases List.mem_cons.1 hp with rfl | hp
          · exact c
          · have : i < p.1 := a1 p hp
            omega)] at this
        unfold getS at this
        rw [if_pos rfl] at this
        cases this
    subst e
    have ev : u = v := by
      have := h i
      unfold getS at this
      rw [if_pos rfl, if_pos rfl] at this
      injection this
    subst ev
    congr 1
    refine sl_ext a2 b2 fun k => ?_
    have := h k
    unfold getS at this
    by_cases c : i = k
    · subst c
      rw [getS_low (fun p hp => a1 p hp), getS_low (fun p hp => b1 p hp)]
    · rw [if_neg c, if_neg c] at this
      exact this

/-- What waits is kept. -/
def merge (k w : Sl) : Sl := w.foldl (fun k p => putS k p.1 p.2) k
theorem merge_up {k w : Sl} (h : Up k) : Up (merge k w) := by
  induction w generalizing k with
  | nil => exact h
  | cons q r ih => exact ih (h.putS q.1 q.2)
theorem mem_merge {k w : Sl} {p : Int × Option (List Int)} (h : p ∈ merge k w) : p ∈ k ∨ p ∈ w := by
  induction w generalizing k with
  | nil => exact Or.inl h
  | cons q r ih =>
    rcases ih h with h | h
    · rcases mem_putS h with rfl | h
      · exact Or.inr (by simp)
      · exact Or.inl h
    · exact Or.inr (List.mem_cons_of_mem _ h)
theorem getS_merge {k w : Sl} (h : Up k) (hw : Up w) (j : Int) : getS (merge k w) j = match getS w j with | some o => some o | none => getS k j := by
  induction w generalizing k with
  | nil => rfl
  | cons q r ih =>
    obtain ⟨i, u⟩ := q
    obtain ⟨a1, a2⟩ := List.pairwise_cons.1 hw
    show getS (merge (putS k i u) r) j = _
    have e : getS ((i, u) :: r) j = if i = j then some u else getS r j := rfl
    rw [ih (h.putS i u) a2, getS_putS h, e]
    by_cases c : i = j
    · subst c
      rw [getS_low (fun p hp => a1 p hp), if_pos rfl, if_pos rfl]
    · rw [if_neg c, if_neg (fun e => c e.symm)]
end Go.Proofs.YtpnodocjpedcmaaDoor.Sec

namespace Go.Proofs.YtpnodocjpedcmaaDoor.Kit
open Go.ChangeShapes Go.WideShapes Go.ChangeAt Go.RowKit

theorem conv_bytes {P : Program} {t e ts : TypeId} (ht : P.underlying t = some (.slice e)) (he : P.underlying e = some (.int .u8)) (hs : P.underlying ts = some .string)
    (w : World) (A : Option Addr) (xs : List Int) (c B : Nat) (hr : Holds w B .u8 A xs) :
    (convert t ts (.slice A xs.length c)).run P w = .ok (.string (strOfNums xs)) w := by
  rcases Nat.eq_zero_or_pos xs.length with h0 | h0
  · obtain rfl : xs = [] := List.eq_nil_of_length_eq_zero h0
    cases A with
    | none => exact run_convert_bytes_nil w _ _ ht he _ _ _ hs
    | some ad =>
      have hl : (loadCells ad 0).run P w = .ok (([] : List Int).map (Value.int .u8)).toArray w := by simpa using run_loadCells_list (P := P) w ad [] (by simp)
      rw [run_convert_bytes_string w _ _ e _ _ c ht he hs]
      rw [show ([] : List Int).length = 0 from rfl, run_bytesToString w ad 0 c [] hl]
      rfl
  · obtain ⟨b, off, rfl, _, hc⟩ := hr h0
    exact run_convert_bytes_arg w _ _ ht he b off xs.length c xs rfl hc _ hs

/-- No block is both rows'. -/
def Apart (u v : Value) : Prop := ∀ b, u.ownBlock = some b → v.ownBlock ≠ some b
theorem Apart.symm {u v : Value} (h : Apart u v) : Apart v u := fun b hb hu => h b hu hb
theorem Apart.newer {w : World} {u v v' : Value} (h : Apart u v) (hu : ∀ b, u.ownBlock = some b → b < w.heap.size) (n : Newer w v v') : Apart u v' := by
  intro b hb
  rcases n with n | n
  · rw [n]; exact h b hb
  · intro he
    have h1 := n b he
    have h2 := hu b hb
    omega
theorem Own.top {w : World} {B : Nat} {e : TypeId} {k : IntKind} {v : Value} {xs : List Int} (h : Own w B e k v xs) : ∀ b, v.ownBlock = some b → b < w.heap.size := fun b hb => (h.lt b hb).2
/-- A new row is apart from all that was there. -/
theorem Apart.new {w w' : World} {B : Nat} {e : TypeId} {k : IntKind} {u v : Value} {xs : List Int} (h : Own w' B e k v xs) (hB : w.heap.size ≤ B) (hu : ∀ b, u.ownBlock = some b → b < w.heap.size) : Apart u v := by
  intro b hb he
  have h1 := h.lt b he
  have h2 := hu b hb
  omega

/-- n elements from the p-th on. -/
theorem Holds.sub {w : World} {B : Nat} {k : IntKind} {b off : Nat} {xs : List Int} (h : Holds w B k (some ⟨b, off, none⟩) xs) (p n : Nat) (hn : p + n ≤ xs.length) : Holds w B k (some ⟨b, off + p, none⟩) ((xs.drop p).take n) := by
  intro hx
  have hl : ((xs.drop p).take n).length = n := by simp; omega
  rw [hl] at hx
  obtain ⟨b2, o2, hA, hb, hc⟩ := h (by omega)
  injection hA with hA
  injection hA with e1 e2
  subst e1 e2
  refine ⟨b, off + p, rfl, hb, fun j hj => ?_⟩
  rw [hl] at hj
  rw [Nat.add_assoc, hc (p + j) (by omega)]
  simp [List.getD, List.getElem?_take, hj]
end Go.Proofs.YtpnodocjpedcmaaDoor.Kit

namespace Go.Proofs.YtpnodocjpedcmaaDoor.Prt
open Go.ChangeShapes Go.WideShapes Go.ChangeAt Go.RowKit Go.Proofs.YtpnodocjpedcmaaDoor.Kit

theorem isin_any (x a b : Int) (w : World) : Calls Tryd.prog 96 #[.int .i64 x, .int .i64 a, .int .i64 b] w fun e w' => e = .returned (.bool (decide (a ≤ x ∧ x ≤ b))) ∧ w = w' := by
  by_cases h1 : a ≤ x
  · by_cases h2 : x ≤ b
    · rw [decide_eq_true (show a ≤ x ∧ x ≤ b from ⟨h1, h2⟩)]
      have q : decide (x ≤ b) = true := by simpa using h2
      go_enter Tryd.func96, Tryd.ntmps96
      go_wp2
      go_ret
      exact ⟨rfl, rfl⟩
    · rw [decide_eq_false (show ¬ (a ≤ x ∧ x ≤ b) from fun h => h2 h.2)]
      have q : decide (x ≤ b) = false := by simpa using h2
      go_enter Tryd.func96, Tryd.ntmps96
      go_wp2
      go_ret
      exact ⟨rfl, rfl⟩
  · rw [decide_eq_false (show ¬ (a ≤ x ∧ x ≤ b) from fun h => h1 h.1)]
    go_enter Tryd.func96, Tryd.ntmps96
    go_wp2
    go_ret
    exact ⟨rfl, rfl⟩

theorem grown_alloc {w w' : World} {row : Option Nat} (h : w.grownBy w' row) (o : Obj) : w.grownBy (w'.alloc o) row :=
  ⟨h.os, h.tape, h.output, Nat.le_trans h.size (by simp), fun k hk hne => (Below.heap_alloc w' o k (Nat.lt_of_lt_of_le hk h.size)).trans (h.block k hk hne)⟩
theorem grown_set {w w' : World} {g : Nat} (h : w.grownBy w' (some g)) (i : Nat) (u : Value) : w.grownBy (w'.setCell ⟨g, i, none⟩ u) (some g) :=
  ⟨h.os, h.tape, h.output, by simpa using h.size, fun k hk hne => (Below.heap_setCell w' _ u k (fun e => hne (by rw [e]))).trans (h.block k hk hne)⟩

theorem next_any (g : Nat) (v0 v1 v2 v3 v4 v5 v6 v7 v8 v9 : Value) (a n : Int) (w : World) (hb : Block w g 45 #[v0, v1, v2, v3, v4, v5, v6, v7, v8, v9, .int .i64 a])
    (ha : 0 ≤ a ∧ a ≤ 100000000) (hn : 0 ≤ n ∧ n ≤ 100000000) :
    Calls Tryd.prog 102 #[.int .i64 n, .pointer (some ⟨g, 0, none⟩)] w fun e w' => e = .returned (.agg #[.int .i64 a, .int .i64 n]) ∧ Block w' g 45 #[v0, v1, v2, v3, v4, v5, v6, v7, v8, v9, .int .i64 (a + n)] ∧ w.grownBy w' (some g) := by
  have c10 : w.cell? ⟨g, 10, none⟩ = some (.int .i64 a) := hb.cell 10
  have f10 := hb.frozen 10
  have hlt := hb.lt
  go_enter Tryd.func102, Tryd.ntmps102
  go_wp2
  refine bodyPost_ret (v := .agg #[.int .i64 a, .int .i64 n]) (by simp [results, Tryd.results102, go_sem]) rfl ⟨rfl, ?_, ?_⟩
  · have := ((hb.set_ 10 (.int .i64 (a + n))).alloc (.cells #[.int .i64 a, .int .i64 n] 42)).alloc (.cells #[.int .i64 a, .int .i64 n] 42)
    simpa using this
  · exact grown_alloc (grown_alloc (grown_set (World.grownBy.refl w _) 10 _) _) _

/-- The map of a layout: q sectors a block, s blocks a slot. -/
def mapV (q s : Int) : Value :=
  .agg #[.int .i64 0, .int .i64 1, .int .i64 1, .int .i64 1, .int .i64 2, .int .i64 q, .int .i64 (2 + q), .int .i64 (s * q), .int .i64 (2 + q + s * q), .int .i64 (s * q), .int .i64 (2 + q + s * q + s * q)]

def Gives (v : Value) (w : World) (e : Ending) (w' : World) : Prop := e = .returned v ∧ Below w.heap.size w w'

set_option maxHeartbeats 3200000 in
theorem lay_any (S B s q : Int) (w : World) (hS : 128 ≤ S ∧ S ≤ 4096) (hB : 128 ≤ B ∧ B ≤ 4096) (hs : 1 ≤ s ∧ s ≤ 4096) (hq : B / S = q) :
    Calls Tryd.prog 84 #[.agg #[.int .i64 S, .int .i64 B, .int .i64 s]] w (Gives (mapV q s) w) := by
  have hqb : 0 ≤ q ∧ q ≤ 32 := by
    have h0 : 0 ≤ q := by rw [← hq]; exact Int.ediv_nonneg (by omega) (by omega)
    have h1 : q * S ≤ B := by rw [← hq]; exact Int.ediv_mul_le B (by omega)
    have h2 : q * 128 ≤ q * S := Int.mul_le_mul_of_nonneg_left hS.1 h0
    omega
  have hsq : 0 ≤ s * q ∧ s * q ≤ 131072 := by
    have h1 : s * q ≤ s * 32 := Int.mul_le_mul_of_nonneg_left hqb.2 (by omega)
    exact ⟨Int.mul_nonneg (by omega) hqb.1, by omega⟩
  have hqi : B / S = q := hq
  have hwq : IntKind.i64.wrap (s * q) = s * q := IntWalk.i64_in _ (by omega)
  have bc := ((Block.new w 61 #[.int .i64 S, .int .i64 B, .int .i64 s]).alloc (.cells #[.int .i64 0, .int .i64 0, .int .i64 0, .int .i64 0, .int .i64 0, .int .i64 0, .int .i64 0, .int .i64 0, .int .i64 0, .int .i64 0, .int .i64 0] 45)).alloc (.cells #[.int .i64 0, .int .i64 0, .int .i64 0, .int .i64 0, .int .i64 0, .int .i64 0, .int .i64 0, .int .i64 0, .int .i64 0, .int .i64 0, .int .i64 0] 45)
  have br : Block (((w.alloc (.cells #[.int .i64 S, .int .i64 B, .int .i64 s] 61)).alloc (.cells #[.int .i64 0, .int .i64 0, .int .i64 0, .int .i64 0, .int .i64 0, .int .i64 0, .int .i64 0, .int .i64 0, .int .i64 0, .int .i64 0, .int .i64 0] 45)).alloc (.cells #[.int .i64 0, .int .i64 0, .int .i64 0, .int .i64 0, .int .i64 0, .int .i64 0, .int .i64 0, .int .i64 0, .int .i64 0, .int .i64 0, .int .i64 0] 45)) (w.heap.size + 1) 45 #[.int .i64 0, .int .i64 0, .int .i64 0, .int .i64 0, .int .i64 0, .int .i64 0, .int .i64 0, .int .i64 0, .int .i64 0, .int .i64 0, .int .i64 0] := by
    have := (Block.new (w.alloc (.cells #[.int .i64 S, .int .i64 B, .int .i64 s] 61)) 45 #[.int .i64 0, .int .i64 0, .int .i64 0, .int .i64 0, .int .i64 0, .int .i64 0, .int .i64 0, .int .i64 0, .int .i64 0, .int .i64 0, .int .i64 0]).alloc (.cells #[.int .i64 0, .int .i64 0, .int .i64 0, .int .i64 0, .int .i64 0, .int .i64 0, .int .i64 0, .int .i64 0, .int .i64 0, .int .i64 0, .int .i64 0] 45)
    simpa using this
  have bm : Block (((w.alloc (.cells #[.int .i64 S, .int .i64 B, .int .i64 s] 61)).alloc (.cells #[.int .i64 0, .int .i64 0, .int .i64 0, .int .i64 0, .int .i64 0, .int .i64 0, .int .i64 0, .int .i64 0, .int .i64 0, .int .i64 0, .int .i64 0] 45)).alloc (.cells #[.int .i64 0, .int .i64 0, .int .i64 0, .int .i64 0, .int .i64 0, .int .i64 0, .int .i64 0, .int .i64 0, .int .i64 0, .int .i64 0, .int .i64 0] 45)) (w.heap.size + 1 + 1) 45 #[.int .i64 0, .int .i64 0, .int .i64 0, .int .i64 0, .int .i64 0, .int .i64 0, .int .i64 0, .int .i64 0, .int .i64 0, .int .i64 0, .int .i64 0] := by
    have := Block.new ((w.alloc (.cells #[.int .i64 S, .int .i64 B, .int .i64 s] 61)).alloc (.cells #[.int .i64 0, .int .i64 0, .int .i64 0, .int .i64 0, .int .i64 0, .int .i64 0, .int .i64 0, .int .i64 0, .int .i64 0, .int .i64 0, .int .i64 0] 45)) 45 #[.int .i64 0, .int .i64 0, .int .i64 0, .int .i64 0, .int .i64 0, .int .i64 0, .int .i64 0, .int .i64 0, .int .i64 0, .int .i64 0, .int .i64 0]
    simpa using this
  have hb0 : Below w.heap.size w (((w.alloc (.cells #[.int .i64 S, .int .i64 B, .int .i64 s] 61)).alloc (.cells #[.int .i64 0, .int .i64 0, .int .i64 0, .int .i64 0, .int .i64 0, .int .i64 0, .int .i64 0, .int .i64 0, .int .i64 0, .int .i64 0, .int .i64 0] 45)).alloc (.cells #[.int .i64 0, .int .i64 0, .int .i64 0, .int .i64 0, .int .i64 0, .int .i64 0, .int .i64 0, .int .i64 0, .int .i64 0, .int .i64 0, .int .i64 0] 45)) := (((Below.refl _ _).alloc (Nat.le_refl _) _).alloc (by simp) _).alloc (by simp; omega) _
  have HQ := Lib.hid hq
  clear hq
  go_enter Tryd.func84, Tryd.ntmps84
  go_wp2_with fail
  generalize (((w.alloc (.cells #[.int .i64 S, .int .i64 B, .int .i64 s] 61)).alloc (.cells #[.int .i64 0, .int .i64 0, .int .i64 0, .int .i64 0, .int .i64 0, .int .i64 0, .int .i64 0, .int .i64 0, .int .i64 0, .int .i64 0, .int .i64 0] 45)).alloc (.cells #[.int .i64 0, .int .i64 0, .int .i64 0, .int .i64 0, .int .i64 0, .int .i64 0, .int .i64 0, .int .i64 0, .int .i64 0, .int .i64 0, .int .i64 0] 45)) = w0 at *
  refine (next_any _ _ _ _ _ _ _ _ _ _ _ 0 1 w0 bm (by omega) (by omega)).mono ?_
  rintro e w1 ⟨rfl, b1, g1⟩
  have bc1 := bc.grown g1 (by intro h; injection h with h; omega)
  have br1 := br.grown g1 (by intro h; injection h with h; omega)
  have hb1 := hb0.grown g1 hb0.size (fun k hk => by injection hk with hk; omega)
  clear bm bc br hb0 g1
  go_wp2_with fail
  refine (next_any _ _ _ _ _ _ _ _ _ _ _ (0 + 1) 1 w1 b1 (by omega) (by omega)).mono ?_
  rintro e w2 ⟨rfl, b2, g2⟩
  have bc2 := bc1.grown g2 (by intro h; injection h with h; omega)
  have br2 := br1.grown g2 (by intro h; injection h with h; omega)
  have hb2 := hb1.grown g2 hb1.size (fun k hk => by injection hk with hk; omega)
  clear b1 bc1 br1 hb1 g2
  have k0 : w2.cell? ⟨w.heap.size + 1 + 1, 0, none⟩ = some (.int .i64 0) := b2.cell 0
  have k1 : w2.cell? ⟨w.heap.size + 1 + 1, 1, none⟩ = some (.int .i64 0) := b2.cell 1
  have k2 : w2.cell? ⟨w.heap.size + 1 + 1, 2, none⟩ = some (.int .i64 0) := b2.cell 2
  have k3 : w2.cell? ⟨w.heap.size + 1 + 1, 3, none⟩ = some (.int .i64 0) := b2.cell 3
  have ff := fun i => b2.frozen i
  have q0 : w2.cell? ⟨w.heap.size, 0, none⟩ = some (.int .i64 S) := bc2.cell 0
  have q1 : w2.cell? ⟨w.heap.size, 1, none⟩ = some (.int .i64 B) := bc2.cell 1
  have q2 : w2.cell? ⟨w.heap.size, 2, none⟩ = some (.int .i64 s) := bc2.cell 2
  go_wp2_with fail
  have b3 := (((b2.set_ 0 (.int .i64 0)).set_ 1 (.int .i64 1)).set_ 2 (.int .i64 1)).set_ 3 (.int .i64 1)
  have bc3 := (((bc2.far (p := ⟨w.heap.size + 1 + 1, 0, none⟩) (by simp; omega) (.int .i64 0)).far (p := ⟨w.heap.size + 1 + 1, 1, none⟩) (by simp; omega) (.int .i64 1)).far (p := ⟨w.heap.size + 1 + 1, 2, none⟩) (by simp; omega) (.int .i64 1)).far (p := ⟨w.heap.size + 1 + 1, 3, none⟩) (by simp; omega) (.int .i64 1)
  have br3 := (((br2.far (p := ⟨w.heap.size + 1 + 1, 0, none⟩) (by simp) (.int .i64 0)).far (p := ⟨w.heap.size + 1 + 1, 1, none⟩) (by simp) (.int .i64 1)).far (p := ⟨w.heap.size + 1 + 1, 2, none⟩) (by simp) (.int .i64 1)).far (p := ⟨w.heap.size + 1 + 1, 3, none⟩) (by simp) (.int .i64 1)
  have hb3 := (((hb2.setCell (p := ⟨w.heap.size + 1 + 1, 0, none⟩) (by simp; omega) (.int .i64 0)).setCell (p := ⟨w.heap.size + 1 + 1, 1, none⟩) (by simp; omega) (.int .i64 1)).setCell (p := ⟨w.heap.size + 1 + 1, 2, none⟩) (by simp; omega) (.int .i64 1)).setCell (p := ⟨w.heap.size + 1 + 1, 3, none⟩) (by simp; omega) (.int .i64 1)
  generalize (((w2.setCell ⟨w.heap.size + 1 + 1, 0, none⟩ (.int .i64 0)).setCell ⟨w.heap.size + 1 + 1, 1, none⟩ (.int .i64 1)).setCell ⟨w.heap.size + 1 + 1, 2, none⟩ (.int .i64 1)).setCell ⟨w.heap.size + 1 + 1, 3, none⟩ (.int .i64 1) = w3 at *
  clear b2 bc2 br2 hb2 k0 k1 k2 k3 ff q0 q1 q2
  refine (next_any _ _ _ _ _ _ _ _ _ _ _ (0 + 1 + 1) q w3 b3 (by omega) (by omega)).mono ?_
  rintro e w4 ⟨rfl, b4, g4⟩
  have bc4 := bc3.grown g4 (by intro h; injection h with h; omega)
  have br4 := br3.grown g4 (by intro h; injection h with h; omega)
  have hb4 := hb3.grown g4 hb3.size (fun k hk => by injection hk with hk; omega)
  clear b3 bc3 br3 hb3 g4
  have k4 : w4.cell? ⟨w.heap.size + 1 + 1, 4, none⟩ = some (.int .i64 0) := b4.cell 4
  have k5 : w4.cell? ⟨w.heap.size + 1 + 1, 5, none⟩ = some (.int .i64 0) := b4.cell 5
  have ff := fun i => b4.frozen i
  go_wp2_with fail
  have b5 := (b4.set_ 4 (.int .i64 2)).set_ 5 (.int .i64 q)
  have bc5 := (bc4.far (p := ⟨w.heap.size + 1 + 1, 4, none⟩) (by simp; omega) (.int .i64 2)).far (p := ⟨w.heap.size + 1 + 1, 5, none⟩) (by simp; omega) (.int .i64 q)
  have br5 := (br4.far (p := ⟨w.heap.size + 1 + 1, 4, none⟩) (by simp) (.int .i64 2)).far (p := ⟨w.heap.size + 1 + 1, 5, none⟩) (by simp) (.int .i64 q)
  have hb5 := (hb4.setCell (p := ⟨w.heap.size + 1 + 1, 4, none⟩) (by simp; omega) (.int .i64 2)).setCell (p := ⟨w.heap.size + 1 + 1, 5, none⟩) (by simp; omega) (.int .i64 q)
  generalize (w4.setCell ⟨w.heap.size + 1 + 1, 4, none⟩ (.int .i64 2)).setCell ⟨w.heap.size + 1 + 1, 5, none⟩ (.int .i64 q) = w5 at *
  clear b4 bc4 br4 hb4 k4 k5 ff
  have q2 : w5.cell? ⟨w.heap.size, 2, none⟩ = some (.int .i64 s) := bc5.cell 2
  have b5' := b5.drewN 1
  have bc5' := bc5.drewN 1
  have br5' := br5.drewN 1
  have hb5' := below_draws hb5 1
  go_region_held3 (fun W' => W'.cell? ⟨w.heap.size, 2, none⟩ = some (.int .i64 s))
    (first | exact q2 | exact bc6.cell 2 | exact bc7.cell 2 | (rw [World.cell?_setCell_far _ _ _ _ (by simp; omega), World.cell?_setCell_far _ _ _ _ (by simp; omega), World.cell?_setCell_far _ _ _ _ (by simp; omega), World.cell?_setCell_far _ _ _ _ (by simp; omega)]; exact q7))
    (first
      | (go_at_call 102; have _t := b6; refine (next_any _ _ _ _ _ _ _ _ _ _ _ (0 + 1 + 1 + q + s * q) (s * q) w6 b6 (by omega) (by omega)).mono ?_; clear _t; rintro e w7 ⟨rfl, b7, g7⟩; have bc7 := bc6.grown g7 (by intro h; injection h with h; omega); have q7 : w7.cell? ⟨w.heap.size, 2, none⟩ = some (.int .i64 s) := bc7.cell 2; have k6 : w7.cell? ⟨w.heap.size + 1 + 1, 6, none⟩ = some (.int .i64 0) := b7.cell 6; have k7 : w7.cell? ⟨w.heap.size + 1 + 1, 7, none⟩ = some (.int .i64 0) := b7.cell 7; have k8 : w7.cell? ⟨w.heap.size + 1 + 1, 8, none⟩ = some (.int .i64 0) := b7.cell 8; have k9 : w7.cell? ⟨w.heap.size + 1 + 1, 9, none⟩ = some (.int .i64 0) := b7.cell 9; have ff7 := fun i => b7.frozen i)
      | (go_at_call 102; refine (next_any _ _ _ _ _ _ _ _ _ _ _ (0 + 1 + 1 + q) (s * q) w5.drew b5' (by omega) (by omega)).mono ?_; rintro e w6 ⟨rfl, b6, g6⟩; have bc6 := bc5'.grown g6 (by intro h; injection h with h; omega)))
  have br7 := (br5'.grown g6 (by intro h; injection h with h; omega)).grown g7 (by intro h; injection h with h; omega)
  have hb6 := hb5'.grown g6 hb5'.size (fun k hk => by injection hk with hk; omega)
  have hb7 := hb6.grown g7 hb6.size (fun k hk => by injection hk with hk; omega)
  have b8 := (((b7.set_ 6 (.int .i64 (2 + q))).set_ 7 (.int .i64 (s * q))).set_ 8 (.int .i64 (2 + q + s * q))).set_ 9 (.int .i64 (s * q))
  have br8 := (((br7.far (p := ⟨w.heap.size + 1 + 1, 6, none⟩) (by simp) (.int .i64 (2 + q))).far (p := ⟨w.heap.size + 1 + 1, 7, none⟩) (by simp) (.int .i64 (s * q))).far (p := ⟨w.heap.size + 1 + 1, 8, none⟩) (by simp) (.int .i64 (2 + q + s * q))).far (p := ⟨w.heap.size + 1 + 1, 9, none⟩) (by simp) (.int .i64 (s * q))
  have hb8 := (((hb7.setCell (p := ⟨w.heap.size + 1 + 1, 6, none⟩) (by simp; omega) (.int .i64 (2 + q))).setCell (p := ⟨w.heap.size + 1 + 1, 7, none⟩) (by simp; omega) (.int .i64 (s * q))).setCell (p := ⟨w.heap.size + 1 + 1, 8, none⟩) (by simp; omega) (.int .i64 (2 + q + s * q))).setCell (p := ⟨w.heap.size + 1 + 1, 9, none⟩) (by simp; omega) (.int .i64 (s * q))
  generalize (((w7.setCell ⟨w.heap.size + 1 + 1, 6, none⟩ (.int .i64 (2 + q))).setCell ⟨w.heap.size + 1 + 1, 7, none⟩ (.int .i64 (s * q))).setCell ⟨w.heap.size + 1 + 1, 8, none⟩ (.int .i64 (2 + q + s * q))).setCell ⟨w.heap.size + 1 + 1, 9, none⟩ (.int .i64 (s * q)) = w8 at *
  clear b5 bc5 br5 hb5 b5' bc5' br5' hb5' q2 b6 bc6 g6 b7 bc7 g7 q7 k6 k7 k8 k9 ff7 br7 hb6 hb7
  have m0 : w8.cell? ⟨w.heap.size + 1 + 1, 0, none⟩ = some (.int .i64 0) := b8.cell 0
  have m1 : w8.cell? ⟨w.heap.size + 1 + 1, 1, none⟩ = some (.int .i64 1) := b8.cell 1
  have m2 : w8.cell? ⟨w.heap.size + 1 + 1, 2, none⟩ = some (.int .i64 1) := b8.cell 2
  have m3 : w8.cell? ⟨w.heap.size + 1 + 1, 3, none⟩ = some (.int .i64 1) := b8.cell 3
  have m4 : w8.cell? ⟨w.heap.size + 1 + 1, 4, none⟩ = some (.int .i64 2) := b8.cell 4
  have m5 : w8.cell? ⟨w.heap.size + 1 + 1, 5, none⟩ = some (.int .i64 q) := b8.cell 5
  have m6 : w8.cell? ⟨w.heap.size + 1 + 1, 6, none⟩ = some (.int .i64 (2 + q)) := b8.cell 6
  have m7 : w8.cell? ⟨w.heap.size + 1 + 1, 7, none⟩ = some (.int .i64 (s * q)) := b8.cell 7
  have m8 : w8.cell? ⟨w.heap.size + 1 + 1, 8, none⟩ = some (.int .i64 (2 + q + s * q)) := b8.cell 8
  have m9 : w8.cell? ⟨w.heap.size + 1 + 1, 9, none⟩ = some (.int .i64 (s * q)) := b8.cell 9
  have m10 : w8.cell? ⟨w.heap.size + 1 + 1, 10, none⟩ = some (.int .i64 (2 + q + s * q + s * q)) := by have := b8.cell 10; simpa using this
  have r0 : w8.cell? ⟨w.heap.size + 1, 0, none⟩ = some (.int .i64 0) := br8.cell 0
  have r1 : w8.cell? ⟨w.heap.size + 1, 1, none⟩ = some (.int .i64 0) := br8.cell 1
  have r2 : w8.cell? ⟨w.heap.size + 1, 2, none⟩ = some (.int .i64 0) := br8.cell 2
  have r3 : w8.cell? ⟨w.heap.size + 1, 3, none⟩ = some (.int .i64 0) := br8.cell 3
  have r4 : w8.cell? ⟨w.heap.size + 1, 4, none⟩ = some (.int .i64 0) := br8.cell 4
  have r5 : w8.cell? ⟨w.heap.size + 1, 5, none⟩ = some (.int .i64 0) := br8.cell 5
  have r6 : w8.cell? ⟨w.heap.size + 1, 6, none⟩ = some (.int .i64 0) := br8.cell 6
  have r7 : w8.cell? ⟨w.heap.size + 1, 7, none⟩ = some (.int .i64 0) := br8.cell 7
  have r8 : w8.cell? ⟨w.heap.size + 1, 8, none⟩ = some (.int .i64 0) := br8.cell 8
  have r9 : w8.cell? ⟨w.heap.size + 1, 9, none⟩ = some (.int .i64 0) := br8.cell 9
  have r10 : w8.cell? ⟨w.heap.size + 1, 10, none⟩ = some (.int .i64 0) := br8.cell 10
  have fr := fun i => br8.frozen i
  clear b8
  go_wp2_with fail
  have b9 := (((((((((((br8.set_ 0 (.int .i64 0)).set_ 1 (.int .i64 1)).set_ 2 (.int .i64 1)).set_ 3 (.int .i64 1)).set_ 4 (.int .i64 2)).set_ 5 (.int .i64 q)).set_ 6 (.int .i64 (2 + q))).set_ 7 (.int .i64 (s * q))).set_ 8 (.int .i64 (2 + q + s * q))).set_ 9 (.int .i64 (s * q))).set_ 10 (.int .i64 (2 + q + s * q + s * q)))
  have hb9 := (((((((((((hb8.setCell (p := ⟨w.heap.size + 1, 0, none⟩) (by simp) (.int .i64 0)).setCell (p := ⟨w.heap.size + 1, 1, none⟩) (by simp) (.int .i64 1)).setCell (p := ⟨w.heap.size + 1, 2, none⟩) (by simp) (.int .i64 1)).setCell (p := ⟨w.heap.size + 1, 3, none⟩) (by simp) (.int .i64 1)).setCell (p := ⟨w.heap.size + 1, 4, none⟩) (by simp) (.int .i64 2)).setCell (p := ⟨w.heap.size + 1, 5, none⟩) (by simp) (.int .i64 q)).setCell (p := ⟨w.heap.size + 1, 6, none⟩) (by simp) (.int .i64 (2 + q))).setCell (p := ⟨w.heap.size + 1, 7, none⟩) (by simp) (.int .i64 (s * q))).setCell (p := ⟨w.heap.size + 1, 8, none⟩) (by simp) (.int .i64 (2 + q + s * q))).setCell (p := ⟨w.heap.size + 1, 9, none⟩) (by simp) (.int .i64 (s * q))).setCell (p := ⟨w.heap.size + 1, 10, none⟩) (by simp) (.int .i64 (2 + q + s * q + s * q)))
  generalize (((((((((((w8.setCell ⟨w.heap.size + 1, 0, none⟩ (.int .i64 0)).setCell ⟨w.heap.size + 1, 1, none⟩ (.int .i64 1)).setCell ⟨w.heap.size + 1, 2, none⟩ (.int .i64 1)).setCell ⟨w.heap.size + 1, 3, none⟩ (.int .i64 1)).setCell ⟨w.heap.size + 1, 4, none⟩ (.int .i64 2)).setCell ⟨w.heap.size + 1, 5, none⟩ (.int .i64 q)).setCell ⟨w.heap.size + 1, 6, none⟩ (.int .i64 (2 + q))).setCell ⟨w.heap.size + 1, 7, none⟩ (.int .i64 (s * q))).setCell ⟨w.heap.size + 1, 8, none⟩ (.int .i64 (2 + q + s * q))).setCell ⟨w.heap.size + 1, 9, none⟩ (.int .i64 (s * q))).setCell ⟨w.heap.size + 1, 10, none⟩ (.int .i64 (2 + q + s * q + s * q))) = w9 at *
  have e0 : w9.cell? ⟨w.heap.size + 1, 0, none⟩ = some (.int .i64 0) := b9.cell 0
  have e1 : w9.cell? ⟨w.heap.size + 1, 1, none⟩ = some (.int .i64 1) := b9.cell 1
  have e2 : w9.cell? ⟨w.heap.size + 1, 2, none⟩ = some (.int .i64 1) := b9.cell 2
  have e3 : w9.cell? ⟨w.heap.size + 1, 3, none⟩ = some (.int .i64 1) := b9.cell 3
  have e4 : w9.cell? ⟨w.heap.size + 1, 4, none⟩ = some (.int .i64 2) := b9.cell 4
  have e5 : w9.cell? ⟨w.heap.size + 1, 5, none⟩ = some (.int .i64 q) := b9.cell 5
  have e6 : w9.cell? ⟨w.heap.size + 1, 6, none⟩ = some (.int .i64 (2 + q)) := b9.cell 6
  have e7 : w9.cell? ⟨w.heap.size + 1, 7, none⟩ = some (.int .i64 (s * q)) := b9.cell 7
  have e8 : w9.cell? ⟨w.heap.size + 1, 8, none⟩ = some (.int .i64 (2 + q + s * q)) := b9.cell 8
  have e9 : w9.cell? ⟨w.heap.size + 1, 9, none⟩ = some (.int .i64 (s * q)) := b9.cell 9
  have e10 : w9.cell? ⟨w.heap.size + 1, 10, none⟩ = some (.int .i64 (2 + q + s * q + s * q)) := b9.cell 10
  refine bodyPost_ret (v := mapV q s) ?_ rfl ⟨rfl, hb9⟩
  unfold mapV
  simp [results, Tryd.results84, go_sem, e0, e1, e2, e3, e4, e5, e6, e7, e8, e9, e10]
end Go.Proofs.YtpnodocjpedcmaaDoor.Prt

namespace Go.Proofs.YtpnodocjpedcmaaDoor.Prt
open Go.ChangeShapes Go.WideShapes Go.ChangeAt Go.RowKit Go.Proofs.YtpnodocjpedcmaaDoor.Kit

theorem isin_yes (x a b : Int) (w : World) (h : a ≤ x ∧ x ≤ b) : Calls Tryd.prog 96 #[.int .i64 x, .int .i64 a, .int .i64 b] w fun e w' => e = .returned (.bool true) ∧ w = w' := by
  have := isin_any x a b w
  rwa [decide_eq_true h] at this
theorem isin_no (x a b : Int) (w : World) (h : ¬ (a ≤ x ∧ x ≤ b)) : Calls Tryd.prog 96 #[.int .i64 x, .int .i64 a, .int .i64 b] w fun e w' => e = .returned (.bool false) ∧ w = w' := by
  have := isin_any x a b w
  rwa [decide_eq_false h] at this

theorem field3 (v0 v1 v2 v3 v4 v5 v6 v7 v8 v9 v10 : Value) (w : World) : (Instr.field 45 (.agg #[v0, v1, v2, v3, v4, v5, v6, v7, v8, v9, v10]) 3).run Tryd.prog w = .ok v10 w := by kernel_rfl

def mayB (S B s : Int) : Bool := decide ((128 ≤ S ∧ S ≤ 4096) ∧ (128 ≤ B ∧ B ≤ 4096) ∧ B % S = 0 ∧ (1 ≤ s ∧ s ≤ 4096) ∧ 2 + B / S + s * (B / S) + s * (B / S) ≤ 1048576)

set_option maxRecDepth 100000 in
set_option maxHeartbeats 1600000 in
theorem may_any (S B s : Int) (w : World) : Calls Tryd.prog 83 #[.agg #[.int .i64 S, .int .i64 B, .int .i64 s]] w (Gives (.bool (mayB S B s)) w) := by
  have hb0 : Below w.heap.size w (w.alloc (.cells #[.int .i64 S, .int .i64 B, .int .i64 s] 61)) := (Below.refl _ _).alloc (Nat.le_refl _) _
  have out : ∀ P : Prop, (mayB S B s = true → P) → ¬ P → mayB S B s = false := fun P h hn => by
    cases hm : mayB S B s with
    | false => rfl
    | true => exact absurd (h hm) hn
  have hd : mayB S B s = true → (128 ≤ S ∧ S ≤ 4096) ∧ (128 ≤ B ∧ B ≤ 4096) ∧ B % S = 0 ∧ (1 ≤ s ∧ s ≤ 4096) ∧ 2 + B / S + s * (B / S) + s * (B / S) ≤ 1048576 := fun h => of_decide_eq_true h
  by_cases h1 : 128 ≤ S ∧ S ≤ 4096
  · by_cases h2 : 128 ≤ B ∧ B ≤ 4096
    · by_cases h3 : B % S = 0
      · have q3 : (B % S == 0) = true := by simpa using h3
        by_cases h4 : 1 ≤ s ∧ s ≤ 4096
        · obtain ⟨q, hq⟩ : ∃ q, B / S = q := ⟨_, rfl⟩
          have gl := fun W => lay_any S B s q W h1 h2 h4 hq
          unfold mapV at gl
          have hf3 := field3
          have GL := Lib.hid gl
          by_cases h5 : 2 + q + s * q + s * q ≤ 1048576
          · have hm : mayB S B s = true := decide_eq_true ⟨h1, h2, h3, h4, by rw [hq]; exact h5⟩
            rw [hm]
            clear hm out hd hq h3 gl
            go_enter Tryd.func83, Tryd.ntmps83
            go_wp2_with (first
              | (go_at_call 96; refine (isin_yes _ _ _ _ (by omega)).mono ?_; rintro e w' ⟨rfl, rfl⟩)
              | (go_at_call 84; refine (GL.out _).mono ?_; rintro e w2 ⟨rfl, hb2⟩))
            go_ret
            exact ⟨rfl, hb0.trans (hb2.mono (by simp))⟩
          · have hm : mayB S B s = false := out _ hd (fun h => h5 (by have := h.2.2.2.2; rwa [hq] at this))
            rw [hm]
            clear hm out hd hq h3 gl
            go_enter Tryd.func83, Tryd.ntmps83
            have q5 : decide (2 + q + s * q + s * q ≤ 1048576) = false := by simpa using h5
            go_wp2_with (first
              | (go_at_call 96; refine (isin_yes _ _ _ _ (by omega)).mono ?_; rintro e w' ⟨rfl, rfl⟩)
              | (go_at_call 84; refine (GL.out _).mono ?_; rintro e w2 ⟨rfl, hb2⟩))
            go_ret
            exact ⟨rfl, hb0.trans (hb2.mono (by simp))⟩
        · have hm : mayB S B s = false := out _ hd (fun h => h4 h.2.2.2.1)
          rw [hm]
          clear hm out hd h3
          have H4 := Lib.hid h4
          clear h4
          go_enter Tryd.func83, Tryd.ntmps83
          go_wp2_with (first
            | (go_at_call 96; refine (isin_yes _ _ _ _ (by omega)).mono ?_; rintro e w' ⟨rfl, rfl⟩)
            | (go_at_call 96; refine (isin_no _ _ _ _ H4.out).mono ?_; rintro e w' ⟨rfl, rfl⟩))
          go_ret
          exact ⟨rfl, hb0⟩
      · have hm : mayB S B s = false := out _ hd (fun h => h3 h.2.2.1)
        have q3 : (B % S == 0) = false := by simpa using h3
        rw [hm]
        clear hm out hd h3
        go_enter Tryd.func83, Tryd.ntmps83
        go_wp2_with (go_at_call 96; refine (isin_yes _ _ _ _ (by omega)).mono ?_; rintro e w' ⟨rfl, rfl⟩)
        go_ret
        exact ⟨rfl, hb0⟩
    · have hm : mayB S B s = false := out _ hd (fun h => h2 h.2.1)
      rw [hm]
      clear hm out hd
      have H2 := Lib.hid h2
      clear h2
      go_enter Tryd.func83, Tryd.ntmps83
      go_wp2_with (first
        | (go_at_call 96; refine (isin_yes _ _ _ _ (by omega)).mono ?_; rintro e w' ⟨rfl, rfl⟩)
        | (go_at_call 96; refine (isin_no _ _ _ _ H2.out).mono ?_; rintro e w' ⟨rfl, rfl⟩))
      go_ret
      exact ⟨rfl, hb0⟩
  · have hm : mayB S B s = false := out _ hd (fun h => h1 h.1)
    rw [hm]
    clear hm out hd
    have H1 := Lib.hid h1
    clear h1
    go_enter Tryd.func83, Tryd.ntmps83
    go_wp2_with (go_at_call 96; refine (isin_no _ _ _ _ H1.out).mono ?_; rintro e w' ⟨rfl, rfl⟩)
    go_ret
    exact ⟨rfl, hb0⟩
end Go.Proofs.YtpnodocjpedcmaaDoor.Prt

namespace Go.Proofs.YtpnodocjpedcmaaDoor.Prt
open Go.ChangeShapes Go.WideShapes Go.ChangeAt Go.RowKit Go.Proofs.YtpnodocjpedcmaaDoor.Kit

set_option maxRecDepth 100000 in
set_option maxHeartbeats 3200000 in
theorem rmay_any (S B s : Int) (w : World) : Calls Tryd.prog 39 #[.agg #[.int .i64 S, .int .i64 B, .int .i64 s]] w (Gives (.bool (mayB S B s)) w) := by
  have hb0 : Below w.heap.size w (w.alloc (.cells #[.int .i64 S, .int .i64 B, .int .i64 s] 61)) := (Below.refl _ _).alloc (Nat.le_refl _) _
  have blk := Block.new w 61 #[.int .i64 S, .int .i64 B, .int .i64 s]
  have out : ∀ P : Prop, (mayB S B s = true → P) → ¬ P → mayB S B s = false := fun P h hn => by
    cases hm : mayB S B s with
    | false => rfl
    | true => exact absurd (h hm) hn
  have hd : mayB S B s = true → (128 ≤ S ∧ S ≤ 4096) ∧ (128 ≤ B ∧ B ≤ 4096) ∧ B % S = 0 ∧ (1 ≤ s ∧ s ≤ 4096) ∧ 2 + B / S + s * (B / S) + s * (B / S) ≤ 1048576 := fun h => of_decide_eq_true h
  by_cases h0 : S < 128
  · rw [out _ hd (by omega)]
    clear out hd blk
    go_enter Tryd.func39, Tryd.ntmps39
    go_wp2
    go_ret
    exact ⟨rfl, hb0⟩
  by_cases h1 : 4096 < S
  · rw [out _ hd (by omega)]
    clear out hd blk
    go_enter Tryd.func39, Tryd.ntmps39
    go_wp2
    go_ret
    exact ⟨rfl, hb0⟩
  by_cases h2 : B < 128
  · rw [out _ hd (by omega)]
    clear out hd blk
    go_enter Tryd.func39, Tryd.ntmps39
    go_wp2
    go_ret
    exact ⟨rfl, hb0⟩
  by_cases h3 : 4096 < B
  · rw [out _ hd (by omega)]
    clear out hd blk
    go_enter Tryd.func39, Tryd.ntmps39
    go_wp2
    go_ret
    exact ⟨rfl, hb0⟩
  by_cases h4 : s < 1
  · rw [out _ hd (by omega)]
    clear out hd blk
    go_enter Tryd.func39, Tryd.ntmps39
    go_wp2
    go_ret
    exact ⟨rfl, hb0⟩
  by_cases h5 : 4096 < s
  · rw [out _ hd (by omega)]
    clear out hd blk
    go_enter Tryd.func39, Tryd.ntmps39
    go_wp2
    go_ret
    exact ⟨rfl, hb0⟩
  by_cases h6 : B % S = 0
  · have q6 : (B % S != 0) = false := by simpa using h6
    obtain ⟨q, hq⟩ : ∃ q, B / S = q := ⟨_, rfl⟩
    have hqb : 0 ≤ q ∧ q ≤ 32 := by
      have h0 : 0 ≤ q := by rw [← hq]; exact Int.ediv_nonneg (by omega) (by omega)
      have h1 : q * S ≤ B := by rw [← hq]; exact Int.ediv_mul_le B (by omega)
      have h2 : q * 128 ≤ q * S := Int.mul_le_mul_of_nonneg_left (by omega) h0
      omega
    have hsq : 0 ≤ s * q ∧ s * q ≤ 131072 := by
      have h1 : s * q ≤ s * 32 := Int.mul_le_mul_of_nonneg_left hqb.2 (by omega)
      exact ⟨Int.mul_nonneg (by omega) hqb.1, by omega⟩
    have h2sq : 2 * s * q = s * q + s * q := by rw [Int.mul_assoc, Int.two_mul]
    obtain ⟨p, hp⟩ : ∃ p, 2 * s * q = p := ⟨_, rfl⟩
    have hpb : 0 ≤ p ∧ p ≤ 262144 := by omega
    have hwp : IntKind.i64.wrap p = p := IntWalk.i64_in _ (by omega)
    have c0 : (w.alloc (.cells #[.int .i64 S, .int .i64 B, .int .i64 s] 61)).cell? ⟨w.heap.size, 0, none⟩ = some (.int .i64 S) := blk.cell 0
    have c1 : (w.alloc (.cells #[.int .i64 S, .int .i64 B, .int .i64 s] 61)).cell? ⟨w.heap.size, 1, none⟩ = some (.int .i64 B) := blk.cell 1
    have c2 : (w.alloc (.cells #[.int .i64 S, .int .i64 B, .int .i64 s] 61)).cell? ⟨w.heap.size, 2, none⟩ = some (.int .i64 s) := blk.cell 2
    have e : mayB S B s = decide (2 + q + p ≤ 1048576) := by
      unfold mayB
      rw [hq]
      by_cases h7 : 2 + q + p ≤ 1048576
      · rw [decide_eq_true h7, decide_eq_true (show _ from ⟨by omega, by omega, h6, by omega, by omega⟩)]
      · rw [decide_eq_false h7, decide_eq_false (fun h => h7 (by have := h.2.2.2.2; omega))]
    rw [e]
    clear out hd blk h6 h2sq hsq e
    go_enter Tryd.func39, Tryd.ntmps39
    go_wp2_with fail
    go_quiet (fail)
    go_wp2_with fail
    go_ret
    exact ⟨rfl, below_draws hb0 _⟩
  · have q6 : (B % S != 0) = true := by simpa using h6
    rw [out _ hd (by omega)]
    clear out hd blk h6
    go_enter Tryd.func39, Tryd.ntmps39
    go_wp2
    go_ret
    exact ⟨rfl, hb0⟩
end Go.Proofs.YtpnodocjpedcmaaDoor.Prt

namespace Go.Proofs.YtpnodocjpedcmaaDoor.Prt
open Go.ChangeShapes Go.WideShapes Go.ChangeAt Go.RowKit Go.Proofs.YtpnodocjpedcmaaDoor.Kit

theorem q_bd (S B s q : Int) (hS : 128 ≤ S ∧ S ≤ 4096) (hB : 128 ≤ B ∧ B ≤ 4096) (hs : 1 ≤ s ∧ s ≤ 4096) (hq : B / S = q) : (1 ≤ S → 0 ≤ q ∧ q ≤ 32) ∧ 0 ≤ s * q ∧ s * q ≤ 131072 := by
  have h0 : 0 ≤ q := by rw [← hq]; exact Int.ediv_nonneg (by omega) (by omega)
  have h1 : q * S ≤ B := by rw [← hq]; exact Int.ediv_mul_le B (by omega)
  have h2 : q * 128 ≤ q * S := Int.mul_le_mul_of_nonneg_left hS.1 h0
  have h3 : s * q ≤ s * 32 := Int.mul_le_mul_of_nonneg_left (show q ≤ 32 by omega) (by omega)
  exact ⟨fun _ => ⟨h0, by omega⟩, Int.mul_nonneg (by omega) h0, by omega⟩

set_option maxRecDepth 100000 in
set_option maxHeartbeats 1600000 in
theorem rlayout_any (S B s q : Int) (w : World) (hS : 128 ≤ S ∧ S ≤ 4096) (hB : 128 ≤ B ∧ B ≤ 4096) (hs : 1 ≤ s ∧ s ≤ 4096) (hq : B / S = q) :
    Calls Tryd.prog 27 #[.agg #[.int .i64 S, .int .i64 B, .int .i64 s]] w (Gives (mapV q s) w) := by
  obtain ⟨hqb, hsq⟩ := q_bd S B s q hS hB hs hq
  have hqb := hqb (by omega)
  obtain ⟨p, hp⟩ : ∃ p, s * q = p := ⟨_, rfl⟩
  unfold mapV
  rw [hp] at hsq ⊢
  have hp2 : q * s = p := by rw [Int.mul_comm]; exact hp
  have hwp : IntKind.i64.wrap p = p := IntWalk.i64_in _ (by omega)
  have hall : 2 + q + 2 * p = 2 + q + p + p := by omega
  clear hp
  go_enter Tryd.func27, Tryd.ntmps27
  go_wp2
  have blk := Block.new (w.alloc (.cells #[.int .i64 S, .int .i64 B, .int .i64 s] 61)) 45 #[.int .i64 0, .int .i64 1, .int .i64 1, .int .i64 1, .int .i64 2, .int .i64 q, .int .i64 (2 + q), .int .i64 p, .int .i64 (2 + q + p), .int .i64 p, .int .i64 (2 + q + p + p)]
  have hb : Below w.heap.size w ((w.alloc (.cells #[.int .i64 S, .int .i64 B, .int .i64 s] 61)).alloc (.cells #[.int .i64 0, .int .i64 1, .int .i64 1, .int .i64 1, .int .i64 2, .int .i64 q, .int .i64 (2 + q), .int .i64 p, .int .i64 (2 + q + p), .int .i64 p, .int .i64 (2 + q + p + p)] 45)) := ((Below.refl _ _).alloc (Nat.le_refl _) _).alloc (by simp) _
  generalize (w.alloc (.cells #[.int .i64 S, .int .i64 B, .int .i64 s] 61)).alloc (.cells #[.int .i64 0, .int .i64 1, .int .i64 1, .int .i64 1, .int .i64 2, .int .i64 q, .int .i64 (2 + q), .int .i64 p, .int .i64 (2 + q + p), .int .i64 p, .int .i64 (2 + q + p + p)] 45) = w9 at *
  have hsz : (w.alloc (.cells #[.int .i64 S, .int .i64 B, .int .i64 s] 61)).heap.size = w.heap.size + 1 := by simp
  rw [hsz] at blk
  have e0 : w9.cell? ⟨w.heap.size + 1, 0, none⟩ = some (.int .i64 0) := blk.cell 0
  have e1 : w9.cell? ⟨w.heap.size + 1, 1, none⟩ = some (.int .i64 1) := blk.cell 1
  have e2 : w9.cell? ⟨w.heap.size + 1, 2, none⟩ = some (.int .i64 1) := blk.cell 2
  have e3 : w9.cell? ⟨w.heap.size + 1, 3, none⟩ = some (.int .i64 1) := blk.cell 3
  have e4 : w9.cell? ⟨w.heap.size + 1, 4, none⟩ = some (.int .i64 2) := blk.cell 4
  have e5 : w9.cell? ⟨w.heap.size + 1, 5, none⟩ = some (.int .i64 q) := blk.cell 5
  have e6 : w9.cell? ⟨w.heap.size + 1, 6, none⟩ = some (.int .i64 (2 + q)) := blk.cell 6
  have e7 : w9.cell? ⟨w.heap.size + 1, 7, none⟩ = some (.int .i64 p) := blk.cell 7
  have e8 : w9.cell? ⟨w.heap.size + 1, 8, none⟩ = some (.int .i64 (2 + q + p)) := blk.cell 8
  have e9 : w9.cell? ⟨w.heap.size + 1, 9, none⟩ = some (.int .i64 p) := blk.cell 9
  have e10 : w9.cell? ⟨w.heap.size + 1, 10, none⟩ = some (.int .i64 (2 + q + p + p)) := blk.cell 10
  refine bodyPost_ret (v := .agg #[.int .i64 0, .int .i64 1, .int .i64 1, .int .i64 1, .int .i64 2, .int .i64 q, .int .i64 (2 + q), .int .i64 p, .int .i64 (2 + q + p), .int .i64 p, .int .i64 (2 + q + p + p)]) ?_ rfl ⟨rfl, hb⟩
  simp [results, Tryd.results27, go_sem, e0, e1, e2, e3, e4, e5, e6, e7, e8, e9, e10]

theorem may_facts {S B s : Int} (h : mayB S B s = true) : (128 ≤ S ∧ S ≤ 4096) ∧ (128 ≤ B ∧ B ≤ 4096) ∧ (1 ≤ s ∧ s ≤ 4096) := by
  have := of_decide_eq_true h
  exact ⟨this.1, this.2.1, this.2.2.2.1⟩

def zeroMap : Value := .agg #[.int .i64 0, .int .i64 0, .int .i64 0, .int .i64 0, .int .i64 0, .int .i64 0, .int .i64 0, .int .i64 0, .int .i64 0, .int .i64 0, .int .i64 0]

set_option maxRecDepth 100000 in
set_option maxHeartbeats 1600000 in
theorem layout_no (S B s : Int) (w : World) (h : mayB S B s = false) : Calls Tryd.prog 56 #[.agg #[.int .i64 S, .int .i64 B, .int .i64 s]] w (Gives (.tuple #[zeroMap, .int .i64 1]) w) := by
  have gm := fun W => may_any S B s W
  rw [h] at gm
  have GM := Lib.hid gm
  clear gm h
  unfold zeroMap
  have br : Block ((w.alloc (.cells #[.int .i64 S, .int .i64 B, .int .i64 s] 61)).alloc (.cells #[.int .i64 0, .int .i64 0, .int .i64 0, .int .i64 0, .int .i64 0, .int .i64 0, .int .i64 0, .int .i64 0, .int .i64 0, .int .i64 0, .int .i64 0] 45)) (w.heap.size + 1) 45 #[.int .i64 0, .int .i64 0, .int .i64 0, .int .i64 0, .int .i64 0, .int .i64 0, .int .i64 0, .int .i64 0, .int .i64 0, .int .i64 0, .int .i64 0] := by
    have := Block.new (w.alloc (.cells #[.int .i64 S, .int .i64 B, .int .i64 s] 61)) 45 #[.int .i64 0, .int .i64 0, .int .i64 0, .int .i64 0, .int .i64 0, .int .i64 0, .int .i64 0, .int .i64 0, .int .i64 0, .int .i64 0, .int .i64 0]
    simpa using this
  have bc := (Block.new w 61 #[.int .i64 S, .int .i64 B, .int .i64 s]).alloc (.cells #[.int .i64 0, .int .i64 0, .int .i64 0, .int .i64 0, .int .i64 0, .int .i64 0, .int .i64 0, .int .i64 0, .int .i64 0, .int .i64 0, .int .i64 0] 45)
  have hb : Below w.heap.size w ((w.alloc (.cells #[.int .i64 S, .int .i64 B, .int .i64 s] 61)).alloc (.cells #[.int .i64 0, .int .i64 0, .int .i64 0, .int .i64 0, .int .i64 0, .int .i64 0, .int .i64 0, .int .i64 0, .int .i64 0, .int .i64 0, .int .i64 0] 45)) := ((Below.refl _ _).alloc (Nat.le_refl _) _).alloc (by simp) _
  go_enter Tryd.func56, Tryd.ntmps56
  go_wp2_with fail
  have hsz : ((w.alloc (.cells #[.int .i64 S, .int .i64 B, .int .i64 s] 61)).alloc (.cells #[.int .i64 0, .int .i64 0, .int .i64 0, .int .i64 0, .int .i64 0, .int .i64 0, .int .i64 0, .int .i64 0, .int .i64 0, .int .i64 0, .int .i64 0] 45)).heap.size = w.heap.size + 2 := by simp
  generalize (w.alloc (.cells #[.int .i64 S, .int .i64 B, .int .i64 s] 61)).alloc (.cells #[.int .i64 0, .int .i64 0, .int .i64 0, .int .i64 0, .int .i64 0, .int .i64 0, .int .i64 0, .int .i64 0, .int .i64 0, .int .i64 0, .int .i64 0] 45) = w1 at *
  have Hsz := Lib.hid hsz
  clear hsz
  refine (GM.out _).mono ?_
  rintro e w2 ⟨rfl, hb2⟩
  have br2 := br.below hb2 (by rw [Hsz.out]; omega)
  have hb12 := hb.trans (hb2.mono hb.size)
  clear br bc hb hb2
  have z0 : w2.cell? ⟨w.heap.size + 1, 0, none⟩ = some (.int .i64 0) := br2.cell 0
  have z1 : w2.cell? ⟨w.heap.size + 1, 1, none⟩ = some (.int .i64 0) := br2.cell 1
  have z2 : w2.cell? ⟨w.heap.size + 1, 2, none⟩ = some (.int .i64 0) := br2.cell 2
  have z3 : w2.cell? ⟨w.heap.size + 1, 3, none⟩ = some (.int .i64 0) := br2.cell 3
  have z4 : w2.cell? ⟨w.heap.size + 1, 4, none⟩ = some (.int .i64 0) := br2.cell 4
  have z5 : w2.cell? ⟨w.heap.size + 1, 5, none⟩ = some (.int .i64 0) := br2.cell 5
  have z6 : w2.cell? ⟨w.heap.size + 1, 6, none⟩ = some (.int .i64 0) := br2.cell 6
  have z7 : w2.cell? ⟨w.heap.size + 1, 7, none⟩ = some (.int .i64 0) := br2.cell 7
  have z8 : w2.cell? ⟨w.heap.size + 1, 8, none⟩ = some (.int .i64 0) := br2.cell 8
  have z9 : w2.cell? ⟨w.heap.size + 1, 9, none⟩ = some (.int .i64 0) := br2.cell 9
  have z10 : w2.cell? ⟨w.heap.size + 1, 10, none⟩ = some (.int .i64 0) := br2.cell 10
  have ff := fun i => br2.frozen i
  go_wp2_with fail
  have b9 := (((((((((((br2.set_ 0 (.int .i64 0)).set_ 1 (.int .i64 0)).set_ 2 (.int .i64 0)).set_ 3 (.int .i64 0)).set_ 4 (.int .i64 0)).set_ 5 (.int .i64 0)).set_ 6 (.int .i64 0)).set_ 7 (.int .i64 0)).set_ 8 (.int .i64 0)).set_ 9 (.int .i64 0)).set_ 10 (.int .i64 0))
  have hb9 := (((((((((((hb12.setCell (p := ⟨w.heap.size + 1, 0, none⟩) (by simp) (.int .i64 0)).setCell (p := ⟨w.heap.size + 1, 1, none⟩) (by simp) (.int .i64 0)).setCell (p := ⟨w.heap.size + 1, 2, none⟩) (by simp) (.int .i64 0)).setCell (p := ⟨w.heap.size + 1, 3, none⟩) (by simp) (.int .i64 0)).setCell (p := ⟨w.heap.size + 1, 4, none⟩) (by simp) (.int .i64 0)).setCell (p := ⟨w.heap.size + 1, 5, none⟩) (by simp) (.int .i64 0)).setCell (p := ⟨w.heap.size + 1, 6, none⟩) (by simp) (.int .i64 0)).setCell (p := ⟨w.heap.size + 1, 7, none⟩) (by simp) (.int .i64 0)).setCell (p := ⟨w.heap.size + 1, 8, none⟩) (by simp) (.int .i64 0)).setCell (p := ⟨w.heap.size + 1, 9, none⟩) (by simp) (.int .i64 0)).setCell (p := ⟨w.heap.size + 1, 10, none⟩) (by simp) (.int .i64 0))
  generalize (((((((((((w2.setCell ⟨w.heap.size + 1, 0, none⟩ (.int .i64 0)).setCell ⟨w.heap.size + 1, 1, none⟩ (.int .i64 0)).setCell ⟨w.heap.size + 1, 2, none⟩ (.int .i64 0)).setCell ⟨w.heap.size + 1, 3, none⟩ (.int .i64 0)).setCell ⟨w.heap.size + 1, 4, none⟩ (.int .i64 0)).setCell ⟨w.heap.size + 1, 5, none⟩ (.int .i64 0)).setCell ⟨w.heap.size + 1, 6, none⟩ (.int .i64 0)).setCell ⟨w.heap.size + 1, 7, none⟩ (.int .i64 0)).setCell ⟨w.heap.size + 1, 8, none⟩ (.int .i64 0)).setCell ⟨w.heap.size + 1, 9, none⟩ (.int .i64 0)).setCell ⟨w.heap.size + 1, 10, none⟩ (.int .i64 0)) = w9 at *
  have e0 : w9.cell? ⟨w.heap.size + 1, 0, none⟩ = some (.int .i64 0) := b9.cell 0
  have e1 : w9.cell? ⟨w.heap.size + 1, 1, none⟩ = some (.int .i64 0) := b9.cell 1
  have e2 : w9.cell? ⟨w.heap.size + 1, 2, none⟩ = some (.int .i64 0) := b9.cell 2
  have e3 : w9.cell? ⟨w.heap.size + 1, 3, none⟩ = some (.int .i64 0) := b9.cell 3
  have e4 : w9.cell? ⟨w.heap.size + 1, 4, none⟩ = some (.int .i64 0) := b9.cell 4
  have e5 : w9.cell? ⟨w.heap.size + 1, 5, none⟩ = some (.int .i64 0) := b9.cell 5
  have e6 : w9.cell? ⟨w.heap.size + 1, 6, none⟩ = some (.int .i64 0) := b9.cell 6
  have e7 : w9.cell? ⟨w.heap.size + 1, 7, none⟩ = some (.int .i64 0) := b9.cell 7
  have e8 : w9.cell? ⟨w.heap.size + 1, 8, none⟩ = some (.int .i64 0) := b9.cell 8
  have e9 : w9.cell? ⟨w.heap.size + 1, 9, none⟩ = some (.int .i64 0) := b9.cell 9
  have e10 : w9.cell? ⟨w.heap.size + 1, 10, none⟩ = some (.int .i64 0) := b9.cell 10
  refine bodyPost_ret (v := .tuple #[.agg #[.int .i64 0, .int .i64 0, .int .i64 0, .int .i64 0, .int .i64 0, .int .i64 0, .int .i64 0, .int .i64 0, .int .i64 0, .int .i64 0, .int .i64 0], .int .i64 1]) ?_ rfl ⟨rfl, hb9⟩
  simp [results, Tryd.results56, go_sem, e0, e1, e2, e3, e4, e5, e6, e7, e8, e9, e10]

set_option maxRecDepth 100000 in
set_option maxHeartbeats 1600000 in
theorem layout_yes (S B s q : Int) (w : World) (h : mayB S B s = true) (hq : B / S = q) : Calls Tryd.prog 56 #[.agg #[.int .i64 S, .int .i64 B, .int .i64 s]] w (Gives (.tuple #[mapV q s, .int .i64 0]) w) := by
  have gm := fun W => may_any S B s W
  obtain ⟨hS, hB, hs⟩ := may_facts h
  rw [h] at gm
  have GM := Lib.hid gm
  have gl := fun W => lay_any S B s q W hS hB hs hq
  unfold mapV at gl ⊢
  have GL := Lib.hid gl
  clear gm h gl hq hS hB hs
  have br : Block ((w.alloc (.cells #[.int .i64 S, .int .i64 B, .int .i64 s] 61)).alloc (.cells #[.int .i64 0, .int .i64 0, .int .i64 0, .int .i64 0, .int .i64 0, .int .i64 0, .int .i64 0, .int .i64 0, .int .i64 0, .int .i64 0, .int .i64 0] 45)) (w.heap.size + 1) 45 #[.int .i64 0, .int .i64 0, .int .i64 0, .int .i64 0, .int .i64 0, .int .i64 0, .int .i64 0, .int .i64 0, .int .i64 0, .int .i64 0, .int .i64 0] := by
    have := Block.new (w.alloc (.cells #[.int .i64 S, .int .i64 B, .int .i64 s] 61)) 45 #[.int .i64 0, .int .i64 0, .int .i64 0, .int .i64 0, .int .i64 0, .int .i64 0, .int .i64 0, .int .i64 0, .int .i64 0, .int .i64 0, .int .i64 0]
    simpa using this
  have bc := (Block.new w 61 #[.int .i64 S, .int .i64 B, .int .i64 s]).alloc (.cells #[.int .i64 0, .int .i64 0, .int .i64 0, .int .i64 0, .int .i64 0, .int .i64 0, .int .i64 0, .int .i64 0, .int .i64 0, .int .i64 0, .int .i64 0] 45)
  have hb : Below w.heap.size w ((w.alloc (.cells #[.int .i64 S, .int .i64 B, .int .i64 s] 61)).alloc (.cells #[.int .i64 0, .int .i64 0, .int .i64 0, .int .i64 0, .int .i64 0, .int .i64 0, .int .i64 0, .int .i64 0, .int .i64 0, .int .i64 0, .int .i64 0] 45)) := ((Below.refl _ _).alloc (Nat.le_refl _) _).alloc (by simp) _
  go_enter Tryd.func56, Tryd.ntmps56
  go_wp2_with fail
  have hsz : ((w.alloc (.cells #[.int .i64 S, .int .i64 B, .int .i64 s] 61)).alloc (.cells #[.int .i64 0, .int .i64 0, .int .i64 0, .int .i64 0, .int .i64 0, .int .i64 0, .int .i64 0, .int .i64 0, .int .i64 0, .int .i64 0, .int .i64 0] 45)).heap.size = w.heap.size + 2 := by simp
  generalize (w.alloc (.cells #[.int .i64 S, .int .i64 B, .int .i64 s] 61)).alloc (.cells #[.int .i64 0, .int .i64 0, .int .i64 0, .int .i64 0, .int .i64 0, .int .i64 0, .int .i64 0, .int .i64 0, .int .i64 0, .int .i64 0, .int .i64 0] 45) = w1 at *
  have Hsz := Lib.hid hsz
  clear hsz
  refine (GM.out _).mono ?_
  rintro e w2 ⟨rfl, hb2⟩
  have br1 := br.below hb2 (by rw [Hsz.out]; omega)
  have bc1 := bc.below hb2 (by rw [Hsz.out]; omega)
  have hb11 := hb.trans (hb2.mono hb.size)
  have hs2 : w.heap.size + 2 ≤ w2.heap.size := by have := hb2.size; rw [Hsz.out] at this; exact this
  have c0 : w2.cell? ⟨w.heap.size, 0, none⟩ = some (.int .i64 S) := bc1.cell 0
  have c1 : w2.cell? ⟨w.heap.size, 1, none⟩ = some (.int .i64 B) := bc1.cell 1
  have c2 : w2.cell? ⟨w.heap.size, 2, none⟩ = some (.int .i64 s) := bc1.cell 2
  clear br bc hb hb2 bc1
  go_wp2_with fail
  refine (GL.out _).mono ?_
  rintro e w3 ⟨rfl, hb3⟩
  have br2 := br1.below hb3 (by omega)
  have hb12 := hb11.trans (hb3.mono hb11.size)
  clear br1 hb11 hb3 c0 c1 c2
  have z0 : w3.cell? ⟨w.heap.size + 1, 0, none⟩ = some (.int .i64 0) := br2.cell 0
  have z1 : w3.cell? ⟨w.heap.size + 1, 1, none⟩ = some (.int .i64 0) := br2.cell 1
  have z2 : w3.cell? ⟨w.heap.size + 1, 2, none⟩ = some (.int .i64 0) := br2.cell 2
  have z3 : w3.cell? ⟨w.heap.size + 1, 3, none⟩ = some (.int .i64 0) := br2.cell 3
  have z4 : w3.cell? ⟨w.heap.size + 1, 4, none⟩ = some (.int .i64 0) := br2.cell 4
  have z5 : w3.cell? ⟨w.heap.size + 1, 5, none⟩ = some (.int .i64 0) := br2.cell 5
  have z6 : w3.cell? ⟨w.heap.size + 1, 6, none⟩ = some (.int .i64 0) := br2.cell 6
  have z7 : w3.cell? ⟨w.heap.size + 1, 7, none⟩ = some (.int .i64 0) := br2.cell 7
  have z8 : w3.cell? ⟨w.heap.size + 1, 8, none⟩ = some (.int .i64 0) := br2.cell 8
  have z9 : w3.cell? ⟨w.heap.size + 1, 9, none⟩ = some (.int .i64 0) := br2.cell 9
  have z10 : w3.cell? ⟨w.heap.size + 1, 10, none⟩ = some (.int .i64 0) := br2.cell 10
  have ff := fun i => br2.frozen i
  go_wp2_with fail
  have b9 := (((((((((((br2.set_ 0 (.int .i64 0)).set_ 1 (.int .i64 1)).set_ 2 (.int .i64 1)).set_ 3 (.int .i64 1)).set_ 4 (.int .i64 2)).set_ 5 (.int .i64 q)).set_ 6 (.int .i64 (2 + q))).set_ 7 (.int .i64 (s * q))).set_ 8 (.int .i64 (2 + q + s * q))).set_ 9 (.int .i64 (s * q))).set_ 10 (.int .i64 (2 + q + s * q + s * q)))
  have hb9 := (((((((((((hb12.setCell (p := ⟨w.heap.size + 1, 0, none⟩) (by simp) (.int .i64 0)).setCell (p := ⟨w.heap.size + 1, 1, none⟩) (by simp) (.int .i64 1)).setCell (p := ⟨w.heap.size + 1, 2, none⟩) (by simp) (.int .i64 1)).setCell (p := ⟨w.heap.size + 1, 3, none⟩) (by simp) (.int .i64 1)).setCell (p := ⟨w.heap.size + 1, 4, none⟩) (by simp) (.int .i64 2)).setCell (p := ⟨w.heap.size + 1, 5, none⟩) (by simp) (.int .i64 q)).setCell (p := ⟨w.heap.size + 1, 6, none⟩) (by simp) (.int .i64 (2 + q))).setCell (p := ⟨w.heap.size + 1, 7, none⟩) (by simp) (.int .i64 (s * q))).setCell (p := ⟨w.heap.size + 1, 8, none⟩) (by simp) (.int .i64 (2 + q + s * q))).setCell (p := ⟨w.heap.size + 1, 9, none⟩) (by simp) (.int .i64 (s * q))).setCell (p := ⟨w.heap.size + 1, 10, none⟩) (by simp) (.int .i64 (2 + q + s * q + s * q)))
  generalize (((((((((((w3.setCell ⟨w.heap.size + 1, 0, none⟩ (.int .i64 0)).setCell ⟨w.heap.size + 1, 1, none⟩ (.int .i64 1)).setCell ⟨w.heap.size + 1, 2, none⟩ (.int .i64 1)).setCell ⟨w.heap.size + 1, 3, none⟩ (.int .i64 1)).setCell ⟨w.heap.size + 1, 4, none⟩ (.int .i64 2)).setCell ⟨w.heap.size + 1, 5, none⟩ (.int .i64 q)).setCell ⟨w.heap.size + 1, 6, none⟩ (.int .i64 (2 + q))).setCell ⟨w.heap.size + 1, 7, none⟩ (.int .i64 (s * q))).setCell ⟨w.heap.size + 1, 8, none⟩ (.int .i64 (2 + q + s * q))).setCell ⟨w.heap.size + 1, 9, none⟩ (.int .i64 (s * q))).setCell ⟨w.heap.size + 1, 10, none⟩ (.int .i64 (2 + q + s * q + s * q))) = w9 at *
  have e0 : w9.cell? ⟨w.heap.size + 1, 0, none⟩ = some (.int .i64 0) := b9.cell 0
  have e1 : w9.cell? ⟨w.heap.size + 1, 1, none⟩ = some (.int .i64 1) := b9.cell 1
  have e2 : w9.cell? ⟨w.heap.size + 1, 2, none⟩ = some (.int .i64 1) := b9.cell 2
  have e3 : w9.cell? ⟨w.heap.size + 1, 3, none⟩ = some (.int .i64 1) := b9.cell 3
  have e4 : w9.cell? ⟨w.heap.size + 1, 4, none⟩ = some (.int .i64 2) := b9.cell 4
  have e5 : w9.cell? ⟨w.heap.size + 1, 5, none⟩ = some (.int .i64 q) := b9.cell 5
  have e6 : w9.cell? ⟨w.heap.size + 1, 6, none⟩ = some (.int .i64 (2 + q)) := b9.cell 6
  have e7 : w9.cell? ⟨w.heap.size + 1, 7, none⟩ = some (.int .i64 (s * q)) := b9.cell 7
  have e8 : w9.cell? ⟨w.heap.size + 1, 8, none⟩ = some (.int .i64 (2 + q + s * q)) := b9.cell 8
  have e9 : w9.cell? ⟨w.heap.size + 1, 9, none⟩ = some (.int .i64 (s * q)) := b9.cell 9
  have e10 : w9.cell? ⟨w.heap.size + 1, 10, none⟩ = some (.int .i64 (2 + q + s * q + s * q)) := b9.cell 10
  refine bodyPost_ret (v := .tuple #[.agg #[.int .i64 0, .int .i64 1, .int .i64 1, .int .i64 1, .int .i64 2, .int .i64 q, .int .i64 (2 + q), .int .i64 (s * q), .int .i64 (2 + q + s * q), .int .i64 (s * q), .int .i64 (2 + q + s * q + s * q)], .int .i64 0]) ?_ rfl ⟨rfl, hb9⟩
  simp [results, Tryd.results56, go_sem, e0, e1, e2, e3, e4, e5, e6, e7, e8, e9, e10]
end Go.Proofs.YtpnodocjpedcmaaDoor.Prt

namespace Go.Proofs.YtpnodocjpedcmaaDoor.Kit
open Go.ChangeShapes Go.WideShapes Go.ChangeAt Go.RowKit

theorem wp_exits {P : Program} {o : Oper} {a : Act} {w : World} {K : Act → World → Prop} {Q Q' : Exit → Act → World → Prop} (h : ∀ e a w, Q e a w → Q' e a w) (hh : o.wp P a w K Q) : o.wp P a w K Q' := by
  unfold Oper.wp at *
  generalize (execOp a.eval o).run P w = r at *
  cases r with
  | ok n w' =>
    cases n <;> simp only [Oper.upon] at hh ⊢ <;>
      first
        | exact hh
        | exact Calls.mono hh (fun e w'' he => by
            cases e with
            | returned v => exact he
            | panicked c => exact h _ _ _ he
            | outgrown => obtain ⟨a, w, he⟩ := he; exact ⟨a, w, h _ _ _ he⟩)
  | halt x w' => cases x <;> simp only [Oper.upon] at hh ⊢ <;> first | exact hh | exact h _ _ _ hh

/-- K behind the operation, Q at a panic, and never out of room. -/
def Behind (K : Act → World → Prop) (Q : Exit → Act → World → Prop) : Exit → Act → World → Prop
  | .normal, a, w => K a w
  | .outgrown, _, _ => False
  | e, a, w => Q e a w

theorem step_of_list {P : Program} {ops : Array Oper} {o : Oper} {a : Act} {w : World} {K : Act → World → Prop} {Q : Exit → Act → World → Prop} {E : Prop}
    (hw : Region.wanted o (yielded ops a.tmps) = true) (h : ∀ Q', (∀ a w, K a w → wpList P ops Q' [] a w) → wpList P ops Q' [o] a w) :
    if Region.wanted o (yielded ops a.tmps) = true then Oper.wp P o a w K Q else E := by
  rw [if_pos hw]
  have h1 := h (Behind K Q) (fun _ _ h => h)
  unfold wpList at h1
  rw [if_pos hw] at h1
  rcases h1 with h1 | ⟨_, a', w', h2⟩
  · unfold Oper.wp at *
    generalize (execOp a.eval o).run P w = r at *
    cases r with
    | ok n w' =>
      cases n <;> simp only [Oper.upon] at h1 ⊢ <;>
        first
          | exact h1
          | exact Calls.mono h1 (fun e w'' he => by
              cases e with
              | returned v => exact he
              | panicked c => exact he
              | outgrown => obtain ⟨_, _, he⟩ := he; exact (he : False).elim)
    | halt x w' => cases x <;> simp only [Oper.upon] at h1 ⊢ <;> exact h1
  · exact (h2 : False).elim
end Go.Proofs.YtpnodocjpedcmaaDoor.Kit

namespace Go.Proofs.YtpnodocjpedcmaaDoor.Prt
open Go.ChangeShapes Go.WideShapes Go.ChangeAt Go.RowKit Go.Proofs.YtpnodocjpedcmaaDoor.Kit

theorem eq_region (d : Nat) (a b : Int) (w : World) : (Op.equalIn (d + 2) 42 (.agg #[.int .i64 a, .int .i64 b]) (.agg #[.int .i64 a, .int .i64 b])).run Tryd.prog w = .ok true w := by
  have hf : (Tryd.prog.fieldsOf 42).toList.map (fun f => (f.name != "_", f.type, f.offset)) = [(true, 3, 0), (true, 3, 1)] := by kernel_rfl
  have p0 : (part 3 #[.int .i64 a, .int .i64 b] 0).run Tryd.prog w = .ok (.int .i64 a) w := by kernel_rfl
  have p1 : (part 3 #[.int .i64 a, .int .i64 b] 1).run Tryd.prog w = .ok (.int .i64 b) w := by kernel_rfl
  rw [run_equalIn_struct w (d + 1) _ _ _ (by kernel_rfl) (by kernel_rfl)]
  generalize (Tryd.prog.fieldsOf 42).toList = fs at *
  match fs, (show fs.length = 2 by simpa using congrArg List.length hf), hf with
  | [f0, f1], _, hf =>
    simp at hf
    obtain ⟨⟨n0, t0, o0⟩, ⟨n1, t1, o1⟩⟩ := hf
    have q0 := run_equalIn_int (P := Tryd.prog) w d 3 .i64 .i64 a a Tryd.underlying3
    have q1 := run_equalIn_int (P := Tryd.prog) w d 3 .i64 .i64 b b Tryd.underlying3
    simp [Op.eqFields, n0, n1, t0, t1, o0, o1, p0, p1, q0, q1]

theorem eq_two (d : Nat) (a b c e : Int) (w : World) : (Op.equalIn (d + 3) 43 (.agg #[.int .i64 a, .int .i64 b, .int .i64 c, .int .i64 e]) (.agg #[.int .i64 a, .int .i64 b, .int .i64 c, .int .i64 e])).run Tryd.prog w = .ok true w := by
  obtain ⟨i, hi⟩ : ∃ i, Tryd.prog.info? 42 = some i := Option.isSome_iff_exists.1 (by kernel_rfl)
  have hu : Tryd.prog.underlying 43 = some (.array 2 42) := by kernel_rfl
  have hc : Tryd.prog.cellsOf 42 = 2 := by kernel_rfl
  rw [run_equalIn_array (P := Tryd.prog) (w := w) (d + 2) _ _ hu hi, hc]
  have p0 : (part 42 #[.int .i64 a, .int .i64 b, .int .i64 c, .int .i64 e] (0 * 2)).run Tryd.prog w = .ok (.agg #[.int .i64 a, .int .i64 b]) w := by kernel_rfl
  have p1 : (part 42 #[.int .i64 a, .int .i64 b, .int .i64 c, .int .i64 e] (1 * 2)).run Tryd.prog w = .ok (.agg #[.int .i64 c, .int .i64 e]) w := by kernel_rfl
  have q0 := eq_region d a b w
  have q1 := eq_region d c e w
  rw [show List.range 2 = [0, 1] from rfl]
  simp only [Op.eqItems, Sem.run_bind, p0, p1, q0, q1, Result.andThen_ok, Bool.not_true, Bool.false_eq_true, if_false, Sem.run_pure]

theorem eq_map (v0 v1 v2 v3 v4 v5 v6 v7 v8 v9 v10 : Int) (w : World) :
    (binOp .eql 45 (.agg #[.int .i64 v0, .int .i64 v1, .int .i64 v2, .int .i64 v3, .int .i64 v4, .int .i64 v5, .int .i64 v6, .int .i64 v7, .int .i64 v8, .int .i64 v9, .int .i64 v10])
      (.agg #[.int .i64 v0, .int .i64 v1, .int .i64 v2, .int .i64 v3, .int .i64 v4, .int .i64 v5, .int .i64 v6, .int .i64 v7, .int .i64 v8, .int .i64 v9, .int .i64 v10])).run Tryd.prog w = .ok (.bool true) w := by
  have hf : (Tryd.prog.fieldsOf 45).toList.map (fun f => (f.name != "_", f.type, f.offset)) = [(true, 43, 0), (true, 42, 4), (true, 43, 6), (true, 3, 10)] := by kernel_rfl
  have p0 : (part 43 #[.int .i64 v0, .int .i64 v1, .int .i64 v2, .int .i64 v3, .int .i64 v4, .int .i64 v5, .int .i64 v6, .int .i64 v7, .int .i64 v8, .int .i64 v9, .int .i64 v10] 0).run Tryd.prog w = .ok (.agg #[.int .i64 v0, .int .i64 v1, .int .i64 v2, .int .i64 v3]) w := by kernel_rfl
  have p1 : (part 42 #[.int .i64 v0, .int .i64 v1, .int .i64 v2, .int .i64 v3, .int .i64 v4, .int .i64 v5, .int .i64 v6, .int .i64 v7, .int .i64 v8, .int .i64 v9, .int .i64 v10] 4).run Tryd.prog w = .ok (.agg #[.int .i64 v4, .int .i64 v5]) w := by kernel_rfl
  have p2 : (part 43 #[.int .i64 v0, .int .i64 v1, .int .i64 v2, .int .i64 v3, .int .i64 v4, .int .i64 v5, .int .i64 v6, .int .i64 v7, .int .i64 v8, .int .i64 v9, .int .i64 v10] 6).run Tryd.prog w = .ok (.agg #[.int .i64 v6, .int .i64 v7, .int .i64 v8, .int .i64 v9]) w := by kernel_rfl
  have p3 : (part 3 #[.int .i64 v0, .int .i64 v1, .int .i64 v2, .int .i64 v3, .int .i64 v4, .int .i64 v5, .int .i64 v6, .int .i64 v7, .int .i64 v8, .int .i64 v9, .int .i64 v10] 10).run Tryd.prog w = .ok (.int .i64 v10) w := by kernel_rfl
  rw [run_eql_struct, run_equalIn_struct w 9999 _ _ _ (by kernel_rfl) (by kernel_rfl)]
  generalize (Tryd.prog.fieldsOf 45).toList = fs at *
  match fs, (show fs.length = 4 by simpa using congrArg List.length hf), hf with
  | [f0, f1, f2, f3], _, hf =>
    simp at hf
    obtain ⟨⟨n0, t0, o0⟩, ⟨n1, t1, o1⟩, ⟨n2, t2, o2⟩, ⟨n3, t3, o3⟩⟩ := hf
    have q0 := eq_two 9996 v0 v1 v2 v3 w
    have q1 := eq_region 9997 v4 v5 w
    have q2 := eq_two 9996 v6 v7 v8 v9 w
    have q3 := run_equalIn_int (P := Tryd.prog) w 9998 3 .i64 .i64 v10 v10 Tryd.underlying3
    simp [Op.eqFields, n0, n1, n2, n3, t0, t1, t2, t3, o0, o1, o2, o3, p0, p1, p2, p3, q0, q1, q2, q3]

end Go.Proofs.YtpnodocjpedcmaaDoor.Prt

namespace Go.Proofs.YtpnodocjpedcmaaDoor.Prt
open Go.ChangeShapes Go.WideShapes Go.ChangeAt Go.RowKit Go.Proofs.YtpnodocjpedcmaaDoor.Kit

theorem count_nil (w : World) : Calls Tryd.prog 58 #[.pointer none] w fun e w' => e = .returned (.int .i64 0) ∧ w' = w := by
  go_enter Tryd.func58, Tryd.ntmps58
  go_wp2
  go_ret
  exact ⟨rfl, rfl⟩

theorem size_nil (w : World) : Calls Tryd.prog 97 #[.pointer none] w fun e w' => e = .returned (.int .i64 0) ∧ w' = w := by
  go_enter Tryd.func97, Tryd.ntmps97
  go_wp2
  go_ret
  exact ⟨rfl, rfl⟩

theorem read_nil (at_ n : Int) (w : World) : Calls Tryd.prog 49 #[.pointer none, .int .i64 at_, .int .i64 n] w fun e w' => e = .returned (.tuple #[.slice none 0 0, .int .i64 1]) ∧ w' = w := by
  go_enter Tryd.func49, Tryd.ntmps49
  go_wp2
  go_ret2
  exact ⟨rfl, rfl⟩

theorem write_nil (at_ : Int) (v : Value) (w : World) : Calls Tryd.prog 54 #[.pointer none, .int .i64 at_, v] w fun e w' => e = .returned (.int .i64 1) ∧ w' = w := by
  go_enter Tryd.func54, Tryd.ntmps54
  go_wp2
  go_ret
  exact ⟨rfl, rfl⟩

set_option maxRecDepth 100000 in
set_option maxHeartbeats 1600000 in
theorem open_nil (F N : Int) (w : World) : Calls Tryd.prog 48 #[.pointer none, .agg #[.int .i64 F, .int .i64 N]] w (Gives (.tuple #[.pointer none, .int .i64 1]) w) := by
  have hb0 : Below w.heap.size w (w.alloc (.cells #[.int .i64 F, .int .i64 N] 42)) := (Below.refl _ _).alloc (Nat.le_refl _) _
  have blk := Block.new w 42 #[.int .i64 F, .int .i64 N]
  have c0 : (w.alloc (.cells #[.int .i64 F, .int .i64 N] 42)).cell? ⟨w.heap.size, 0, none⟩ = some (.int .i64 F) := blk.cell 0
  have c1 : (w.alloc (.cells #[.int .i64 F, .int .i64 N] 42)).cell? ⟨w.heap.size, 1, none⟩ = some (.int .i64 N) := blk.cell 1
  clear blk
  by_cases h0 : F < 0
  · have h0 : decide (F < 0) = true := decide_eq_true h0
    go_enter Tryd.func48, Tryd.ntmps48
    go_wp2_with fail
    go_quiet (fail)
    go_wp2_with fail
    go_ret2
    exact ⟨rfl, below_draws hb0 _⟩
  by_cases h1 : N < 1
  · have h0 : decide (F < 0) = false := decide_eq_false h0
    have h1 : decide (N < 1) = true := decide_eq_true h1
    go_enter Tryd.func48, Tryd.ntmps48
    go_wp2_with fail
    go_quiet (fail)
    go_wp2_with fail
    go_ret2
    exact ⟨rfl, below_draws hb0 _⟩
  have h2 : decide (0 < N) = true := decide_eq_true (by omega)
  have h0 : decide (F < 0) = false := decide_eq_false h0
  have h1 : decide (N < 1) = false := decide_eq_false h1
  have G := Lib.hid count_nil
  go_enter Tryd.func48, Tryd.ntmps48
  go_wp2_with fail
  go_quiet ((go_at_call 58; exact Calls.quiet_of_same (G.out _)))
  go_wp2_with fail
  go_ret2
  exact ⟨rfl, below_draws hb0 _⟩
end Go.Proofs.YtpnodocjpedcmaaDoor.Prt

namespace Go.Proofs.YtpnodocjpedcmaaDoor.Kit
open Go.ChangeShapes Go.WideShapes Go.ChangeAt Go.RowKit

/-- The array's value. -/
def arrV (k : IntKind) (xs : List Int) : Value := .agg (xs.map (Value.int k)).toArray

/-- Block g is just the array xs, of elements of type t. -/
def Arr (w : World) (g : Nat) (t : TypeId) (k : IntKind) (xs : List Int) : Prop := Block w g t (xs.map (Value.int k)).toArray

section
variable {w w' : World} {B g : Nat} {t e : TypeId} {k : IntKind} {xs ys : List Int}

theorem Arr.new (w : World) (t : TypeId) (k : IntKind) (xs : List Int) : Arr (w.alloc (.cells (xs.map (Value.int k)).toArray t)) w.heap.size t k xs := Block.new w t _
theorem Arr.lt (h : Arr w g t k xs) : g < w.heap.size := Block.lt h
theorem Arr.cell (h : Arr w g t k xs) {i : Nat} (hi : i < xs.length) : w.cell? ⟨g, i, none⟩ = some (.int k (xs[i]?.getD 0)) := by
  rw [Block.cell h i]
  simp [List.getElem?_eq_getElem hi]
theorem Arr.frozen (h : Arr w g t k xs) (i : Nat) : w.frozen? ⟨g, i, none⟩ = false := Block.frozen h i
theorem Arr.below (h : Arr w g t k xs) (hb : Below B w w') (hg : g < B) : Arr w' g t k xs := Block.below h hb hg
theorem Arr.grown {row : Option Nat} (h : Arr w g t k xs) (hb : w.grownBy w' row) (hg : row ≠ some g) : Arr w' g t k xs := Block.grown h hb hg
theorem Arr.alloc (h : Arr w g t k xs) (o : Obj) : Arr (w.alloc o) g t k xs := Block.alloc h o
theorem Arr.drewN (h : Arr w g t k xs) (n : Nat) : Arr (w.drewN n) g t k xs := h
theorem Arr.set_ (h : Arr w g t k xs) (i : Nat) (z : Int) : Arr (w.setCell ⟨g, i, none⟩ (.int k z)) g t k (xs.set i z) := by
  have := Block.set_ h i (.int k z)
  unfold Arr
  rwa [List.setIfInBounds_toArray, ← List.map_set] at this
theorem Arr.far (h : Arr w g t k xs) {p : Addr} (hp : g ≠ p.block) (u : Value) : Arr (w.setCell p u) g t k xs := Block.far h hp u

/-- The array as a slice, from a on, n cells of it. -/
theorem Arr.holds (h : Arr w g t k xs) (a n : Nat) : Holds w w.heap.size k (some ⟨g, a, none⟩) ((xs.drop a).take n) := by
  intro hx
  refine ⟨g, a, rfl, h.lt, fun j hj => ?_⟩
  simp only [List.length_take, List.length_drop] at hj
  rw [h.cell (i := a + j) (by omega)]
  simp [List.getD, show j < n by omega]

theorem Arr.holds_all (h : Arr w g t k xs) : Holds w w.heap.size k (some ⟨g, 0, none⟩) xs := by
  have := h.holds 0 xs.length
  rwa [List.drop_zero, List.take_of_length_le (Nat.le_refl _)] at this

theorem Arr.range (h : Arr w g t k xs) : w.rangeAt g 0 (xs.map (Value.int k)) := by
  intro j v hj
  obtain ⟨hl, rfl⟩ := get_ints hj
  rw [Nat.zero_add, h.cell hl]
  simp [List.getD]

theorem Arr.there (h : Arr w g t k xs) {n : Nat} (hn : n ≤ xs.length) : w.there g 0 n := fun j hj => by
  rw [Nat.zero_add, h.cell (i := j) (by omega)]
  exact ⟨rfl, h.frozen j⟩

theorem setCells_grown (g : Nat) : ∀ (vs : List Value) (o : Nat) (w : World), w.grownBy (w.setCells g o vs) (some g)
  | [], o, w => World.grownBy.refl w _
  | v :: r, o, w => by
    have h1 : w.grownBy (w.setCell ⟨g, o, none⟩ v) (some g) := ⟨rfl, rfl, rfl, by simp, fun k _ hk => heap_setCell_other w ⟨g, o, none⟩ k v (fun e => hk (by rw [e]))⟩
    have h2 := setCells_grown g r (o + 1) (w.setCell ⟨g, o, none⟩ v)
    exact ⟨h2.os.trans h1.os, h2.tape.trans h1.tape, h2.output.trans h1.output, Nat.le_trans h1.size h2.size, fun j hj hne => (h2.block j (Nat.lt_of_lt_of_le hj h1.size) hne).trans (h1.block j hj hne)⟩

theorem setCells_block : ∀ (vs : List Value) (o : Nat) (w : World) (cs : Array Value), Block w g t cs → o + vs.length ≤ cs.size →
    Block (w.setCells g o vs) g t (cs.toList.take o ++ (vs ++ cs.toList.drop (o + vs.length))).toArray
  | [], o, w, cs, h, _ => by
    have e : (cs.toList.take o ++ ([] ++ cs.toList.drop (o + 0))).toArray = cs := by simp
    show Block w g t (cs.toList.take o ++ ([] ++ cs.toList.drop (o + 0))).toArray
    rw [e]; exact h
  | v :: r, o, w, cs, h, hl => by
    simp only [List.length_cons] at hl
    have h1 := setCells_block r (o + 1) (w.setCell ⟨g, o, none⟩ v) _ (h.set_ o v) (by simp; omega)
    have e : ((cs.setIfInBounds o v).toList.take (o + 1) ++ (r ++ (cs.setIfInBounds o v).toList.drop (o + 1 + r.length))) = cs.toList.take o ++ (v :: r ++ cs.toList.drop (o + (v :: r).length)) := by
      rw [Array.toList_setIfInBounds, List.take_add_one]
      have hd : (cs.toList.set o v).drop (o + 1 + r.length) = cs.toList.drop (o + (v :: r).length) := by
        rw [List.drop_set, if_pos (by omega), List.length_cons]; congr 1; omega
      rw [hd]
      have ht : (cs.toList.set o v).take o = cs.toList.take o := by
        apply List.ext_getElem?
        intro j
        rw [List.getElem?_take, List.getElem?_take]
        split
        · rw [List.getElem?_set_ne (by omega)]
        · rfl
      rw [ht]
      simp [List.getElem?_set, show o < cs.size by omega]
    rw [e] at h1
    exact h1
end

section
variable {P : Program} {w : World}

/-- A whole array is loaded. -/
theorem wpList_load_arr {ops : Array Oper} {rest : List Oper} {o : Oper} {a : Act} {Q : Exit → Act → World → Prop} (hgd : o.guard = none) (ty : TypeId) (x : Operand) (ho : o.op = .load ty x)
    {g : Nat} {t : TypeId} {k : IntKind} {xs : List Int} (h : Arr w g t k xs) (hx : a.eval x = .pointer (some ⟨g, 0, none⟩)) {d : TypeDesc} (hu : P.underlying ty = some d) (hd : d.isRow = true) (hi : (P.info? ty).map (·.size) = some xs.length)
    (hK : wpList P ops Q rest (a.put o.dst (arrV k xs)) w) : wpList P ops Q (o :: rest) a w :=
  wpList_load_mid hgd ty x ho g 0 hx (xs.map (Value.int k)) d h.range hu hd (by simpa using hi) hK

/-- A whole array is stored over another. -/
theorem wpList_store_arr {ops : Array Oper} {rest : List Oper} {o : Oper} {a : Act} {Q : Exit → Act → World → Prop} (hgd : o.guard = none) (ty : TypeId) (x y : Operand) (ho : o.op = .store ty x y)
    {g : Nat} {t : TypeId} {k : IntKind} {xs ys : List Int} (h : Arr w g t k xs) (hx : a.eval x = .pointer (some ⟨g, 0, none⟩)) (hy : a.eval y = arrV k ys) (hl : ys.length = xs.length) (hi : (P.info? ty).map (·.size) = some ys.length)
    (hK : ∀ w', Arr w' g t k ys → w.grownBy w' (some g) → wpList P ops Q rest (a.put o.dst undef) w') : wpList P ops Q (o :: rest) a w := by
  refine wpList_store_mid hgd ty x y ho g 0 (ys.map (Value.int k)).toArray hx hy (by simpa using h.there (by omega)) (by simpa using hi) (all_oneCell_toArray (ints_one k ys)) ?_
  refine hK _ ?_ (setCells_grown g _ 0 w)
  have := setCells_block (ys.map (Value.int k)) 0 w _ h (by simp; omega)
  unfold Arr
  have e : ((xs.map (Value.int k)).toArray.toList.take 0 ++ (ys.map (Value.int k) ++ (xs.map (Value.int k)).toArray.toList.drop (0 + (ys.map (Value.int k)).length))).toArray = (ys.map (Value.int k)).toArray := by
    simp [hl]
  rw [e] at this
  simpa using this

theorem run_eqItems_ints (d : Nat) {e : TypeId} {k k' : IntKind} (he : P.plainKey e = true) (hu : P.underlying e = some (.int k')) (hc : P.cellsOf e = 1) (xs ys : List Int) :
    ∀ is : List Nat, (∀ i ∈ is, i < xs.length ∧ i < ys.length) → (Op.eqItems (d + 1) e (P.cellsOf e) (xs.map (Value.int k)).toArray (ys.map (Value.int k)).toArray is).run P w = .ok (decide (∀ i ∈ is, xs[i]?.getD 0 = ys[i]?.getD 0)) w
  | [], _ => by simp [Op.eqItems]
  | i :: is, h => by
    obtain ⟨h1, h2⟩ := h i (by simp)
    have ih := run_eqItems_ints (k := k) d he hu hc xs ys is (fun j hj => h j (by simp [hj]))
    have p1 := run_part_plain (P := P) w he (xs := (xs.map (Value.int k)).toArray) (off := i * P.cellsOf e) (v := .int k (xs[i]?.getD 0)) (by rw [hc]; simp [h1])
    have p2 := run_part_plain (P := P) w he (xs := (ys.map (Value.int k)).toArray) (off := i * P.cellsOf e) (v := .int k (ys[i]?.getD 0)) (by rw [hc]; simp [h2])
    have p3 : (Op.equalIn (d + 1) e (.int k (xs[i]?.getD 0)) (.int k (ys[i]?.getD 0))).run P w = .ok (xs[i]?.getD 0 == ys[i]?.getD 0) w := by
      simp [Op.equalIn, run_underlying hu]
    simp only [Op.eqItems, Sem.run_bind, p1, p2, p3, Result.andThen_ok]
    by_cases hq : xs[i]?.getD 0 = ys[i]?.getD 0
    · simp only [hq, beq_self_eq_true, Bool.not_true, Bool.false_eq_true, if_false]
      rw [ih]
      congr 1
      simp [hq]
    · have hq' : (xs[i]?.getD 0 == ys[i]?.getD 0) = false := by simpa using hq
      simp only [hq', Bool.not_false, if_true, Sem.run_pure]
      congr 1
      simp [hq]

/-- == of two arrays of integers. -/
theorem run_eql_arr {t e : TypeId} {k k' : IntKind} {i : TypeInfo} (xs ys : List Int) (ht : P.underlying t = some (.array xs.length e)) (hi : P.info? e = some i) (he : P.plainKey e = true) (hu : P.underlying e = some (.int k')) (hc : P.cellsOf e = 1) (hl : xs.length = ys.length) :
    (binOp .eql t (arrV k xs) (arrV k ys)).run P w = .ok (.bool (decide (xs = ys))) w := by
  have h1 := run_equalIn_array (P := P) (w := w) 9999 (xs.map (Value.int k)).toArray (ys.map (Value.int k)).toArray ht hi
  have h2 := run_eqItems_ints (P := P) (w := w) 9998 (k := k) he hu hc xs ys (List.range xs.length) (fun j hj => by have := List.mem_range.1 hj; omega)
  have e1 : decide (∀ j ∈ List.range xs.length, xs[j]?.getD 0 = ys[j]?.getD 0) = decide (xs = ys) := by
    rw [decide_eq_decide]
    constructor
    · intro h
      apply List.ext_getElem hl
      intro j hj hj'
      have := h j (List.mem_range.2 hj)
      simpa [hj, hj'] using this
    · rintro rfl j _; rfl
  rw [e1] at h2
  rw [h2] at h1
  unfold arrV
  simp only [binOp]
  simp [Op.equal, Op.maxDepth, h1]
end

section
variable {H : Type} {enc : TypeId × Value → H} {P : Program} {w : World} {base b0 : Nat} {sp : Nat → Bool} {held : Bool}

/-- An array of integers that came in by value. -/
theorem open_array {r : Reach} {t e : TypeId} {n : Nat} {k : IntKind} (ht : P.underlying t = some (.array n e)) (he : P.underlying e = some (.int k)) (hc : P.cellsOf e = 1) (hct : P.cellsOf t = n)
    {v : Value} {d : DataW H} {ps : List MemPlace} (hv : Value.okWide P w r b0 t v) (h : DataW.Trod enc P w base sp held t v d ps) :
    ∃ xs : List Int, xs.length = n ∧ v = arrV k xs ∧ ∀ z ∈ xs, (Lit.int k z).wf = true := by
  simp only [Value.okWide, ht] at hv
  obtain ⟨cs, rfl, hsz, _⟩ := hv
  obtain ⟨fuel, hf⟩ := h
  obtain ⟨ys, m, _, _, hl, hyl, hg⟩ := DataW.trod_array ht hf
  simp only [Value.cells] at hl hg
  have each : ∀ i, i < n → ∃ q, cs.toList[i]? = some (.int k q) ∧ (Lit.int k q).wf = true := by
    intro i hi
    have h1 := hg i hi
    rw [hc, Nat.mul_one] at h1
    have hx : ys[i]? = some (ys[i]'(by omega)) := List.getElem?_eq_getElem (by omega)
    rw [hx] at h1
    obtain ⟨q, hq, _, hw⟩ := DataW.trod_int he h1
    refine ⟨q, ?_, hw⟩
    rw [List.drop_eq_getElem_cons (by rw [hl, hct]; exact hi)] at hq
    simp only [List.take_succ_cons, List.take_zero, List.cons.injEq, and_true] at hq
    rw [List.getElem?_eq_getElem (by rw [hl, hct]; exact hi), hq]
  have hlen : cs.toList.length = n := by rw [hl, hct]
  refine ⟨cs.toList.map (fun v => match v with | .int _ q => q | _ => 0), by rw [List.length_map, hlen], ?_, fun z hz => ?_⟩
  · unfold arrV
    congr 1
    apply Array.toList_inj.1
    apply List.ext_getElem?
    intro i
    by_cases hi : i < n
    · obtain ⟨q, hq, _⟩ := each i hi
      simp only [List.map_map, List.getElem?_map, hq]
      rfl
    · rw [List.getElem?_eq_none (by omega), List.getElem?_eq_none (by simp; have := hlen; simp at this; omega)]
  · obtain ⟨v, hv, rfl⟩ := List.mem_map.1 hz
    obtain ⟨i, hi, rfl⟩ := List.mem_iff_getElem.1 hv
    obtain ⟨q, hq, hw⟩ := each i (by omega)
    rw [List.getElem?_eq_getElem hi] at hq
    injection hq with hq
    rw [hq]
    exact hw
end
end Go.Proofs.YtpnodocjpedcmaaDoor.Kit

namespace Go.Proofs.YtpnodocjpedcmaaDoor.Kit
open Go.ChangeShapes Go.WideShapes Go.ChangeAt Go.RowKit

theorem step_store_arr {P : Program} {ops : Array Oper} {o : Oper} {a : Act} {w : World} {K : Act → World → Prop} {Q : Exit → Act → World → Prop} {E : Prop}
    (hgd : o.guard = none) (ty : TypeId) (x y : Operand) (ho : o.op = .store ty x y)
    {g : Nat} {t : TypeId} {k : IntKind} {xs ys : List Int} (h : Arr w g t k xs) (hx : a.eval x = .pointer (some ⟨g, 0, none⟩)) (hy : a.eval y = arrV k ys) (hl : ys.length = xs.length) (hi : (P.info? ty).map (·.size) = some ys.length)
    (hK : ∀ w', Arr w' g t k ys → w.grownBy w' (some g) → K (a.put o.dst undef) w') : if Region.wanted o (yielded ops a.tmps) = true then Oper.wp P o a w K Q else E := by
  have hw : Region.wanted o (yielded ops a.tmps) = true := by simp [Region.wanted, hgd]
  rw [if_pos hw]
  refine wp_store_mid ty x y ho g 0 (ys.map (Value.int k)).toArray hx hy (by simpa using h.there (by omega)) (by simpa using hi) (all_oneCell_toArray (ints_one k ys)) ?_
  refine hK _ ?_ (setCells_grown g _ 0 w)
  have := setCells_block (ys.map (Value.int k)) 0 w _ h (by simp; omega)
  unfold Arr
  have e : ((xs.map (Value.int k)).toArray.toList.take 0 ++ (ys.map (Value.int k) ++ (xs.map (Value.int k)).toArray.toList.drop (0 + (ys.map (Value.int k)).length))).toArray = (ys.map (Value.int k)).toArray := by
    simp [hl]
  rw [e] at this
  simpa using this

/-- A row that lies in memory is loaded as a whole. -/
theorem step_load_row {P : Program} {ops : Array Oper} {o : Oper} {a : Act} {w : World} {K : Act → World → Prop} {Q : Exit → Act → World → Prop} {E : Prop}
    (hw : Region.wanted o (yielded ops a.tmps) = true) (ty : TypeId) (x : Operand) (ho : o.op = .load ty x)
    (b f : Nat) (cs : List Value) (hx : a.eval x = .pointer (some ⟨b, f, none⟩)) (hc : w.rangeAt b f cs) {d : TypeDesc} (hu : P.underlying ty = some d) (hd : d.isRow = true) (hi : (P.info? ty).map (·.size) = some cs.length)
    (hK : K (a.put o.dst (.agg cs.toArray)) w) : if Region.wanted o (yielded ops a.tmps) = true then Oper.wp P o a w K Q else E := by
  rw [if_pos hw]
  exact wp_load_mid ty x ho b f hx cs d hc hu hd hi hK
end Go.Proofs.YtpnodocjpedcmaaDoor.Kit

namespace Go.Proofs.YtpnodocjpedcmaaDoor.Kit
open Go.ChangeShapes Go.WideShapes Go.ChangeAt Go.RowKit

/-- The fields are integers of these kinds, a cell each, in their order. -/
def intFields (P : Program) (fs : Array Field) (ks : List IntKind) : Bool :=
  fs.size == ks.length && (List.range fs.size).all fun i => match fs[i]?, ks[i]? with
    | some f, some k => f.offset == i && P.cellsOf f.type == 1 && (match P.underlying f.type with | some (.int k') => decide (k' = k) | _ => false)
    | _, _ => false

theorem intFields_of {P : Program} {fs : Array Field} {ks : List IntKind} (h : intFields P fs ks = true) : fs.size = ks.length ∧
    ∀ i, i < ks.length → ∃ f k, fs[i]? = some f ∧ ks[i]? = some k ∧ f.offset = i ∧ P.cellsOf f.type = 1 ∧ P.underlying f.type = some (.int k) := by
  unfold intFields at h
  simp only [Bool.and_eq_true, beq_iff_eq, List.all_eq_true, List.mem_range] at h
  refine ⟨h.1, fun i hi => ?_⟩
  have h2 := h.2 i (by omega)
  cases hf : fs[i]? with
  | none => rw [hf] at h2; simp at h2
  | some f =>
    cases hk : ks[i]? with
    | none => rw [hf, hk] at h2; simp at h2
    | some k =>
      rw [hf, hk] at h2
      simp only [Bool.and_eq_true, beq_iff_eq] at h2
      refine ⟨f, k, rfl, rfl, h2.1.1, h2.1.2, ?_⟩
      have h3 := h2.2
      split at h3
      · rename_i k' hu
        rw [hu, of_decide_eq_true h3]
      · cases h3

def numOfV : Value → Int
  | .int _ n => n
  | _ => 0

section
variable {H : Type} {enc : TypeId × Value → H} {P : Program} {w : World} {base b0 : Nat} {sp : Nat → Bool} {held : Bool}

theorem struct_row {e : TypeId} {fs : Array Field} {ks : List IntKind} (he : P.underlying e = some (.struct fs)) (hf : intFields P fs ks = true) (hc : P.cellsOf e = ks.length)
    {n : Nat} {cs : List Value} {y : DataW H × List MemPlace} (h : DataW.trod enc P w base sp held n e cs = some y) :
    ∃ row : List Int, row.length = ks.length ∧ cs = List.zipWith Value.int ks row ∧ ∀ (j : Nat) (k : IntKind), ks[j]? = some k → (Lit.int k (row[j]?.getD 0)).wf = true := by
  obtain ⟨xs, m, _, _, hl, hxl, hg⟩ := DataW.trod_struct he h
  obtain ⟨hsz, hi⟩ := intFields_of hf
  have each : ∀ i (hi' : i < ks.length), ∃ q, cs[i]? = some (.int ks[i] q) ∧ (Lit.int ks[i] q).wf = true := by
    intro i hi'
    obtain ⟨f, k, h1, h2, h3, h4, h5⟩ := hi i hi'
    have hk : ks[i] = k := by rw [List.getElem?_eq_getElem hi'] at h2; exact Option.some.inj h2
    have h6 := hg i f h1
    rw [h3, h4] at h6
    have hx : xs[i]? = some (xs[i]'(by omega)) := List.getElem?_eq_getElem (by omega)
    rw [hx] at h6
    obtain ⟨q, hq, _, hw⟩ := DataW.trod_int h5 h6
    refine ⟨q, ?_, by rw [hk]; exact hw⟩
    rw [hk]
    rw [List.drop_eq_getElem_cons (by omega)] at hq
    simp only [List.take_succ_cons, List.take_zero, List.cons.injEq, and_true] at hq
    rw [List.getElem?_eq_getElem (by omega), hq]
  refine ⟨cs.map numOfV, by simp; omega, ?_, fun j k hk => ?_⟩
  · apply List.ext_getElem?
    intro i
    by_cases hi' : i < ks.length
    · obtain ⟨q, hq, _⟩ := each i hi'
      rw [List.getElem?_zipWith, List.getElem?_map, hq, List.getElem?_eq_getElem hi']
      rfl
    · rw [List.getElem?_eq_none (by omega), List.getElem?_zipWith, List.getElem?_eq_none (by omega : ks.length ≤ i)]
  · have hj : j < ks.length := by
      rcases Nat.lt_or_ge j ks.length with h' | h'
      · exact h'
      · rw [List.getElem?_eq_none h'] at hk; cases hk
    obtain ⟨q, hq, hw⟩ := each j hj
    rw [List.getElem?_eq_getElem hj] at hk
    injection hk with hk
    rw [List.getElem?_map, hq, ← hk]
    exact hw

/-- A struct of integers by value. -/
theorem open_struct {r : Reach} {t : TypeId} {fs : Array Field} {ks : List IntKind} (ht : P.underlying t = some (.struct fs)) (hf : intFields P fs ks = true) (hc : P.cellsOf t = ks.length)
    {v : Value} {d : DataW H} {ps : List MemPlace} (hv : Value.okWide P w r b0 t v) (h : DataW.Trod enc P w base sp held t v d ps) :
    ∃ row : List Int, row.length = ks.length ∧ v = .agg (List.zipWith Value.int ks row).toArray ∧ ∀ (j : Nat) (k : IntKind), ks[j]? = some k → (Lit.int k (row[j]?.getD 0)).wf = true := by
  obtain ⟨cs, rfl, hsz⟩ := okWide_struct ht hv
  obtain ⟨fuel, hfu⟩ := h
  obtain ⟨row, h1, h2, h3⟩ := struct_row ht hf hc hfu
  exact ⟨row, h1, by rw [← h2]; simp [Value.cells], h3⟩

/-- The slice at A holds rows of integers of these kinds; its memory lies below block B. -/
def HoldsR (w : World) (B : Nat) (ks : List IntKind) (A : Option Addr) (rows : List (List Int)) : Prop :=
  0 < rows.length → ∃ b off : Nat, A = some ⟨b, off, none⟩ ∧ b < B ∧ ∀ (i : Nat) (row : List Int), rows[i]? = some row → ∀ (j : Nat) (k : IntKind), ks[j]? = some k → w.cell? ⟨b, off + i * ks.length + j, none⟩ = some (.int k (row[j]?.getD 0))

/-- A slice of structs of integers that came in. -/
theorem open_rows {t e : TypeId} {fs : Array Field} {ks : List IntKind} (ht : P.underlying t = some (.slice e)) (he : P.underlying e = some (.struct fs)) (hf : intFields P fs ks = true) (hc : P.cellsOf e = ks.length) (hks : 0 < ks.length)
    {v : Value} {d : DataW H} {ps : List MemPlace} (hval : Value.okWide P w .any b0 t v) (h : DataW.Trod enc P w 0 (fun _ => true) true t v d ps) (hlt : ∀ x ∈ ps, x.block < w.heap.size) :
    ∃ (A : Option Addr) (cap : Nat) (rows : List (List Int)), v = .slice A rows.length cap ∧ rows.length ≤ cap ∧ cap ≤ maxLen ∧ HoldsR w w.heap.size ks A rows ∧
      ∀ (i : Nat) (row : List Int), rows[i]? = some row → row.length = ks.length ∧ ∀ (j : Nat) (k : IntKind), ks[j]? = some k → (Lit.int k (row[j]?.getD 0)).wf = true := by
  obtain ⟨a0, len, cap, rfl⟩ := okWide_slice ht hval
  obtain ⟨fuel, hfu⟩ := h
  rcases DataW.trod_slice ht hfu with ⟨hcs, _⟩ | ⟨a, len', cap', elems, rest, n, _, hcs, hx, _, hl, hm, hlen, hel, _, _⟩
  · simp [Value.cells] at hcs
    obtain ⟨rfl, rfl, rfl⟩ := hcs
    exact ⟨none, 0, [], rfl, Nat.le_refl _, Nat.zero_le _, fun h => absurd h (by simp), fun i row hi => by simp at hi⟩
  · simp [Value.cells] at hcs
    obtain ⟨rfl, rfl, rfl⟩ := hcs
    have each : ∀ i, i < len → ∃ row : List Int, row.length = ks.length ∧ (∀ (j : Nat) (k : IntKind), ks[j]? = some k → w.cell? (a.add (i * ks.length + j)) = some (.int k (row[j]?.getD 0)) ∧ (Lit.int k (row[j]?.getD 0)).wf = true) := by
      intro i hi
      have h1 := hel i hi
      have hx' : elems[i]? = some (elems[i]'(by omega)) := List.getElem?_eq_getElem (by omega)
      rw [hx'] at h1
      obtain ⟨cs, h2, h3⟩ := Option.bind_eq_some_iff.1 h1
      obtain ⟨_, h5, h6⟩ := World.cells?_some h2
      obtain ⟨row, r1, r2, r3⟩ := struct_row he hf hc h3
      refine ⟨row, r1, fun j k hk => ⟨?_, r3 j k hk⟩⟩
      have hj : j < ks.length := by
        rcases Nat.lt_or_ge j ks.length with h' | h'
        · exact h'
        · rw [List.getElem?_eq_none h'] at hk; cases hk
      have h7 := h6 j (by omega)
      rw [hc] at h7
      have hadd : (a.add (i * ks.length)).add j = a.add (i * ks.length + j) := by
        unfold Addr.add
        by_cases h1 : i * ks.length = 0 <;> by_cases h2 : j = 0 <;> simp [h1, h2, Nat.add_assoc]
      rw [hadd] at h7
      rw [h7, r2, List.getElem?_zipWith, hk, List.getElem?_eq_getElem (by omega : j < row.length)]
      rfl
    have all : ∃ rows : List (List Int), rows.length = len ∧ ∀ (i : Nat) (row : List Int), rows[i]? = some row → row.length = ks.length ∧ (∀ (j : Nat) (k : IntKind), ks[j]? = some k → w.cell? (a.add (i * ks.length + j)) = some (.int k (row[j]?.getD 0)) ∧ (Lit.int k (row[j]?.getD 0)).wf = true) := by
      have build : ∀ m, m ≤ len → ∃ rows : List (List Int), rows.length = m ∧ ∀ (i : Nat) (row : List Int), rows[i]? = some row → row.length = ks.length ∧ (∀ (j : Nat) (k : IntKind), ks[j]? = some k → w.cell? (a.add (i * ks.length + j)) = some (.int k (row[j]?.getD 0)) ∧ (Lit.int k (row[j]?.getD 0)).wf = true) := by
        intro m
        induction m with
        | zero => exact fun _ => ⟨[], rfl, fun i row hi => by simp at hi⟩
        | succ m ih =>
          intro hm'
          obtain ⟨rows, q1, q2⟩ := ih (by omega)
          obtain ⟨row, r1, r2⟩ := each m (by omega)
          refine ⟨rows ++ [row], by simp [q1], fun i row' hi => ?_⟩
          by_cases hi' : i < m
          · rw [List.getElem?_append_left (by omega)] at hi
            exact q2 i row' hi
          · have him : i = m := by
              rcases Nat.lt_or_ge i (rows ++ [row]).length with h' | h'
              · simp at h'; omega
              · rw [List.getElem?_eq_none h'] at hi; cases hi
            subst him
            rw [List.getElem?_append_right (by omega), q1] at hi
            simp at hi
            subst hi
            exact ⟨r1, r2⟩
      exact build len (Nat.le_refl _)
    obtain ⟨rows, q1, q2⟩ := all
    refine ⟨some a, cap, rows, by rw [q1], by omega, hm, fun hx0 => ?_, fun i row hi => ⟨(q2 i row hi).1, fun j k hk => ((q2 i row hi).2 j k hk).2⟩⟩
    obtain ⟨b, off, spot⟩ := a
    have hk0 : ks[0]? = some ks[0] := List.getElem?_eq_getElem hks
    have hr0 : rows[0]? = some (rows[0]'hx0) := List.getElem?_eq_getElem hx0
    have hspot : spot = none := by simpa [Addr.add] using World.cell?_spot ((q2 0 _ hr0).2 0 _ hk0).1
    subst hspot
    simp only [Prod.mk.injEq] at hx
    have hpos : 0 < (elems.length + rest.length) * P.cellsOf e := Nat.mul_pos (by omega) (by omega)
    refine ⟨b, off, rfl, hlt (.cell b (off + 0)) (by rw [hx.2]; exact List.mem_append_left _ (MemPlace.mem_row.2 ⟨0, hpos, by simp⟩)), fun i row hi j k hk => ?_⟩
    have := ((q2 i row hi).2 j k hk).1
    rw [add_plain] at this
    rw [Nat.add_assoc]
    exact this
end
end Go.Proofs.YtpnodocjpedcmaaDoor.Kit

namespace Go.Proofs.YtpnodocjpedcmaaDoor.Kit
open Go.ChangeShapes Go.WideShapes Go.ChangeAt Go.RowKit

/-- Field i is an integer of kind k in cell o. -/
def isInt (P : Program) (fs : Array Field) (i o : Nat) (k : IntKind) : Bool := match fs[i]? with
  | some f => f.offset == o && P.cellsOf f.type == 1 && (match P.underlying f.type with | some (.int k') => decide (k' = k) | _ => false)
  | none => false

/-- Field i is a slice of bytes in cell o. -/
def isBytes (P : Program) (fs : Array Field) (i o : Nat) : Bool := match fs[i]? with
  | some f => f.offset == o && P.cellsOf f.type == 1 && (match P.underlying f.type with
    | some (.slice e) => P.cellsOf e == 1 && (match P.underlying e with | some (.int k') => decide (k' = .u8) | _ => false)
    | _ => false)
  | none => false

theorem isInt_of {P : Program} {fs : Array Field} {i o : Nat} {k : IntKind} (h : isInt P fs i o k = true) : ∃ f, fs[i]? = some f ∧ f.offset = o ∧ P.cellsOf f.type = 1 ∧ P.underlying f.type = some (.int k) := by
  unfold isInt at h
  cases hf : fs[i]? with
  | none => rw [hf] at h; simp at h
  | some f =>
    rw [hf] at h
    simp only [Bool.and_eq_true, beq_iff_eq] at h
    refine ⟨f, rfl, h.1.1, h.1.2, ?_⟩
    have h3 := h.2
    split at h3
    · rename_i k' hu
      rw [hu, of_decide_eq_true h3]
    · cases h3

theorem isBytes_of {P : Program} {fs : Array Field} {i o : Nat} (h : isBytes P fs i o = true) : ∃ f e, fs[i]? = some f ∧ f.offset = o ∧ P.cellsOf f.type = 1 ∧ P.underlying f.type = some (.slice e) ∧ P.underlying e = some (.int .u8) ∧ P.cellsOf e = 1 := by
  unfold isBytes at h
  cases hf : fs[i]? with
  | none => rw [hf] at h; simp at h
  | some f =>
    rw [hf] at h
    simp only [Bool.and_eq_true, beq_iff_eq] at h
    have h3 := h.2
    split at h3
    · rename_i e hu
      simp only [Bool.and_eq_true, beq_iff_eq] at h3
      have h4 := h3.2
      split at h4
      · rename_i k' hk
        exact ⟨f, e, rfl, h.1.1, h.1.2, hu, by rw [hk, of_decide_eq_true h4], h3.1⟩
      · cases h4
    · cases h3

theorem get_of_one {cs : List Value} {o : Nat} {v : Value} (h : (cs.drop o).take 1 = [v]) : cs[o]? = some v := by
  have h1 : ((cs.drop o).take 1)[0]? = some v := by rw [h]; rfl
  simpa [List.getElem?_take, List.getElem?_drop] using h1

section
variable {H : Type} {enc : TypeId × Value → H} {P : Program} {w : World} {b0 : Nat}

theorem octets_of {n : Nat} {t e : TypeId} {cs : List Value} {x : DataW H × List MemPlace} (ht : P.underlying t = some (.slice e)) (he : P.underlying e = some (.int .u8)) (hc : P.cellsOf e = 1)
    (h : DataW.trod enc P w 0 (fun _ => true) true n t cs = some x) (hlt : ∀ p ∈ x.2, p.block < w.heap.size) :
    ∃ (A : Option Addr) (cap : Nat) (zs : List Int), cs = [.slice A zs.length cap] ∧ zs.length ≤ cap ∧ cap ≤ maxLen ∧ Octets zs ∧ Holds w w.heap.size .u8 A zs := by
  rcases open_ints ht he hc h with ⟨hcs, hx⟩ | ⟨a, len, cap, zs, hcs, _, hl, hm, hz, hx, hcell, hwz⟩
  · exact ⟨none, 0, [], hcs, Nat.le_refl _, Nat.zero_le _, fun _ h => by simp at h, Holds.nil⟩
  · simp only [if_true] at hz
    have hlen : (zs.take len).length = len := by simp [hz, Nat.min_eq_left hl]
    refine ⟨some a, cap, zs.take len, by rw [hlen]; exact hcs, by rw [hlen]; exact hl, hm, fun n hn => bounds_u8 (hwz n (List.mem_of_mem_take hn)), fun hp => ?_⟩
    rw [hlen] at hp
    obtain ⟨b, off, spot⟩ := a
    have hspot : spot = none := by simpa [Addr.add] using World.cell?_spot (hcell 0 (by omega))
    subst hspot
    refine ⟨b, off, rfl, hlt (.cell b (off + 0)) (by rw [hx]; exact MemPlace.mem_row.2 ⟨0, by omega, by simp⟩), fun j hj => ?_⟩
    rw [hlen] at hj
    rw [← add_plain, hcell j (by omega)]
    simp [List.getD, show j < len by omega]

theorem open_iiib {t : TypeId} {fs : Array Field} {k0 k1 k2 : IntKind} (ht : P.underlying t = some (.struct fs)) (h0 : isInt P fs 0 0 k0 = true) (h1 : isInt P fs 1 1 k1 = true) (h2 : isInt P fs 2 2 k2 = true) (h3 : isBytes P fs 3 3 = true)
    (hsz : fs.size = 4) (hc : P.cellsOf t = 4) {v : Value} {d : DataW H} {ps : List MemPlace} (hv : Value.okWide P w .any b0 t v) (h : DataW.Trod enc P w 0 (fun _ => true) true t v d ps) (hlt : ∀ x ∈ ps, x.block < w.heap.size) :
    ∃ (a b x : Int) (A : Option Addr) (cap : Nat) (zs : List Int), v = .agg #[.int k0 a, .int k1 b, .int k2 x, .slice A zs.length cap] ∧ (Lit.int k0 a).wf = true ∧ (Lit.int k1 b).wf = true ∧ (Lit.int k2 x).wf = true ∧
      zs.length ≤ cap ∧ cap ≤ maxLen ∧ Octets zs ∧ Holds w w.heap.size .u8 A zs := by
  obtain ⟨cs, rfl, hcs⟩ := okWide_struct ht hv
  obtain ⟨fuel, hfu⟩ := h
  obtain ⟨xs, m, _, hx, hl, hxl, hg⟩ := DataW.trod_struct ht hfu
  simp only [Value.cells] at hg
  obtain ⟨f0, e0, o0, s0, u0⟩ := isInt_of h0
  obtain ⟨f1, e1, o1, s1, u1⟩ := isInt_of h1
  obtain ⟨f2, e2, o2, s2, u2⟩ := isInt_of h2
  obtain ⟨f3, e, e3, o3, s3, u3, ue, ce⟩ := isBytes_of h3
  have x0 : xs[0]? = some (xs[0]'(by omega)) := List.getElem?_eq_getElem (by omega)
  have x1 : xs[1]? = some (xs[1]'(by omega)) := List.getElem?_eq_getElem (by omega)
  have x2 : xs[2]? = some (xs[2]'(by omega)) := List.getElem?_eq_getElem (by omega)
  have x3 : xs[3]? = some (xs[3]'(by omega)) := List.getElem?_eq_getElem (by omega)
  have g0 := hg 0 f0 e0
  have g1 := hg 1 f1 e1
  have g2 := hg 2 f2 e2
  have g3 := hg 3 f3 e3
  rw [o0, s0, x0] at g0
  rw [o1, s1, x1] at g1
  rw [o2, s2, x2] at g2
  rw [o3, s3, x3] at g3
  obtain ⟨a, ha, _, wa⟩ := DataW.trod_int u0 g0
  obtain ⟨b, hb, _, wb⟩ := DataW.trod_int u1 g1
  obtain ⟨x, hxx, _, wx⟩ := DataW.trod_int u2 g2
  obtain ⟨A, cap, zs, hs, r1, r2, r3, r4⟩ := octets_of u3 ue ce g3 (fun p hp => hlt p (by
    have hps : ps = xs.flatMap (·.2) := congrArg Prod.snd hx
    rw [hps]
    exact List.mem_flatMap.2 ⟨_, List.getElem_mem _, hp⟩))
  refine ⟨a, b, x, A, cap, zs, ?_, wa, wb, wx, r1, r2, r3, r4⟩
  have q0 := get_of_one ha
  have q1 := get_of_one hb
  have q2 := get_of_one hxx
  have q3 := get_of_one hs
  obtain ⟨l⟩ := cs
  have hl4 : l.length = 4 := by simpa [hc] using hcs
  match l, hl4, q0, q1, q2, q3 with
  | [y0, y1, y2, y3], _, q0, q1, q2, q3 =>
    simp at q0 q1 q2 q3
    subst q0 q1 q2 q3
    rfl
end
end Go.Proofs.YtpnodocjpedcmaaDoor.Kit

namespace Go.Proofs.YtpnodocjpedcmaaDoor.Kit
open Go.ChangeShapes Go.WideShapes Go.ChangeAt Go.RowKit

/-- The slice at A holds these elements, each of sz cells that E tells; its memory lies below block B. -/
def HoldsE {R : Type} (E : R → List Value → Prop) (sz : Nat) (w : World) (B : Nat) (A : Option Addr) (rs : List R) : Prop :=
  0 < rs.length → ∃ b off : Nat, A = some ⟨b, off, none⟩ ∧ b < B ∧ ∀ (i : Nat) (r : R), rs[i]? = some r → ∃ cs, E r cs ∧ cs.length = sz ∧ ∀ (j : Nat) (c : Value), cs[j]? = some c → w.cell? ⟨b, off + i * sz + j, none⟩ = some c

theorem HoldsE.keep {R : Type} {E E' : R → List Value → Prop} {sz : Nat} {w w' : World} {B : Nat} {A : Option Addr} {rs : List R} (h : HoldsE E sz w B A rs) (hk : ∀ p : Addr, p.block < B → w'.cell? p = w.cell? p) (hE : ∀ r cs, E r cs → E' r cs) : HoldsE E' sz w' B A rs := by
  intro hx
  obtain ⟨b, off, e, hb, hc⟩ := h hx
  refine ⟨b, off, e, hb, fun i r hi => ?_⟩
  obtain ⟨cs, h1, h2, h3⟩ := hc i r hi
  exact ⟨cs, hE r cs h1, h2, fun j c hj => (hk _ hb).trans (h3 j c hj)⟩

section
variable {H : Type} {enc : TypeId × Value → H} {P : Program} {w : World} {b0 : Nat}

theorem list_of {R : Type} {Q : Nat → R → Prop} : ∀ (n : Nat), (∀ i, i < n → ∃ r, Q i r) → ∃ rs : List R, rs.length = n ∧ ∀ (i : Nat) (r : R), rs[i]? = some r → Q i r
  | 0, _ => ⟨[], rfl, fun i r hi => by simp at hi⟩
  | n + 1, h => by
    obtain ⟨rs, q1, q2⟩ := list_of n fun i hi => h i (by omega)
    obtain ⟨r, hr⟩ := h n (by omega)
    refine ⟨rs ++ [r], by simp [q1], fun i r' hi => ?_⟩
    by_cases hi' : i < n
    · rw [List.getElem?_append_left (by omega)] at hi
      exact q2 i r' hi
    · have him : i = n := by
        rcases Nat.lt_or_ge i (rs ++ [r]).length with h' | h'
        · simp at h'; omega
        · rw [List.getElem?_eq_none h'] at hi; cases hi
      subst him
      rw [List.getElem?_append_right (by omega), q1] at hi
      simp at hi
      subst hi
      exact hr

theorem open_slice_of {R : Type} (E : R → List Value → Prop) {t e : TypeId} (sz : Nat) (ht : P.underlying t = some (.slice e)) (hc : P.cellsOf e = sz) (hsz : 0 < sz)
    (hE : ∀ (n : Nat) (cs : List Value) (y : DataW H × List MemPlace), DataW.trod enc P w 0 (fun _ => true) true n e cs = some y → (∀ x ∈ y.2, x.block < w.heap.size) → ∃ r, E r cs)
    {v : Value} {d : DataW H} {ps : List MemPlace} (hval : Value.okWide P w .any b0 t v) (h : DataW.Trod enc P w 0 (fun _ => true) true t v d ps) (hlt : ∀ x ∈ ps, x.block < w.heap.size) :
    ∃ (A : Option Addr) (cap : Nat) (rs : List R), v = .slice A rs.length cap ∧ rs.length ≤ cap ∧ cap ≤ maxLen ∧ HoldsE E sz w w.heap.size A rs := by
  obtain ⟨a0, len, cap, rfl⟩ := okWide_slice ht hval
  obtain ⟨fuel, hfu⟩ := h
  rcases DataW.trod_slice ht hfu with ⟨hcs, _⟩ | ⟨a, len', cap', elems, rest, n, _, hcs, hx, _, hl, hm, hlen, hel, _, _⟩
  · simp [Value.cells] at hcs
    obtain ⟨rfl, rfl, rfl⟩ := hcs
    exact ⟨none, 0, [], rfl, Nat.le_refl _, Nat.zero_le _, fun h => absurd h (by simp)⟩
  · simp [Value.cells] at hcs
    obtain ⟨rfl, rfl, rfl⟩ := hcs
    simp only [Prod.mk.injEq] at hx
    have each : ∀ i, i < len → ∃ r, ∃ cs, E r cs ∧ cs.length = sz ∧ ∀ (j : Nat) (c : Value), cs[j]? = some c → w.cell? (a.add (i * sz + j)) = some c := by
      intro i hi
      have h1 := hel i hi
      have hx' : elems[i]? = some (elems[i]'(by omega)) := List.getElem?_eq_getElem (by omega)
      rw [hx'] at h1
      obtain ⟨cs, h2, h3⟩ := Option.bind_eq_some_iff.1 h1
      obtain ⟨_, h5, h6⟩ := World.cells?_some h2
      obtain ⟨r, hr⟩ := hE _ _ _ h3 (fun x hxx => hlt x (by
        rw [hx.2]
        refine List.mem_append_right _ ?_
        refine List.mem_flatMap.2 ⟨elems[i]'(by omega), ?_, hxx⟩
        first | exact List.getElem_mem _ | exact List.mem_append_left _ (List.getElem_mem _)))
      refine ⟨r, cs, hr, by rw [h5, hc], fun j c hj => ?_⟩
      have hj' : j < cs.length := by
        rcases Nat.lt_or_ge j cs.length with h' | h'
        · exact h'
        · rw [List.getElem?_eq_none h'] at hj; cases hj
      have h7 := h6 j (by omega)
      rw [hc] at h7
      have hadd : (a.add (i * sz)).add j = a.add (i * sz + j) := by
        unfold Addr.add
        by_cases h1 : i * sz = 0 <;> by_cases h2 : j = 0 <;> simp [h1, h2, Nat.add_assoc]
      rw [hadd] at h7
      rw [h7, hj]
    obtain ⟨rs, q1, q2⟩ := list_of len each
    refine ⟨some a, cap, rs, by rw [q1], by omega, hm, fun hx0 => ?_⟩
    obtain ⟨b, off, spot⟩ := a
    have hr0 : rs[0]? = some (rs[0]'hx0) := List.getElem?_eq_getElem hx0
    obtain ⟨cs0, _, hl0, hc0⟩ := q2 0 _ hr0
    have hspot : spot = none := by simpa [Addr.add] using World.cell?_spot (hc0 0 _ (List.getElem?_eq_getElem (by omega)))
    subst hspot
    have hpos : 0 < (elems.length + rest.length) * P.cellsOf e := Nat.mul_pos (by omega) (by omega)
    refine ⟨b, off, rfl, hlt (.cell b (off + 0)) (by rw [hx.2]; exact List.mem_append_left _ (MemPlace.mem_row.2 ⟨0, hpos, by simp⟩)), fun i r hi => ?_⟩
    obtain ⟨cs, h1, h2, h3⟩ := q2 i r hi
    refine ⟨cs, h1, h2, fun j c hj => ?_⟩
    have := h3 j c hj
    rw [add_plain] at this
    rw [Nat.add_assoc]
    exact this

/-- Three integers and bytes. -/
structure Stp where
  a : Int
  b : Int
  x : Int
  A : Option Addr
  cap : Nat
  zs : List Int

/-- How such a one lies in memory. -/
def StpIn (k0 k1 k2 : IntKind) (w : World) (B : Nat) (s : Stp) (cs : List Value) : Prop :=
  cs = [.int k0 s.a, .int k1 s.b, .int k2 s.x, .slice s.A s.zs.length s.cap] ∧ (Lit.int k0 s.a).wf = true ∧ (Lit.int k1 s.b).wf = true ∧ (Lit.int k2 s.x).wf = true ∧
    s.zs.length ≤ s.cap ∧ s.cap ≤ maxLen ∧ Octets s.zs ∧ Holds w B .u8 s.A s.zs

theorem read_iiib {t : TypeId} {fs : Array Field} {k0 k1 k2 : IntKind} (ht : P.underlying t = some (.struct fs)) (h0 : isInt P fs 0 0 k0 = true) (h1 : isInt P fs 1 1 k1 = true) (h2 : isInt P fs 2 2 k2 = true) (h3 : isBytes P fs 3 3 = true)
    (hsz : fs.size = 4) (hc : P.cellsOf t = 4) {n : Nat} {cs : List Value} {y : DataW H × List MemPlace} (h : DataW.trod enc P w 0 (fun _ => true) true n t cs = some y) (hlt : ∀ x ∈ y.2, x.block < w.heap.size) :
    ∃ s : Stp, StpIn k0 k1 k2 w w.heap.size s cs := by
  obtain ⟨xs, m, _, hx, hl, hxl, hg⟩ := DataW.trod_struct ht h
  obtain ⟨f0, e0, o0, s0, u0⟩ := isInt_of h0
  obtain ⟨f1, e1, o1, s1, u1⟩ := isInt_of h1
  obtain ⟨f2, e2, o2, s2, u2⟩ := isInt_of h2
  obtain ⟨f3, e, e3, o3, s3, u3, ue, ce⟩ := isBytes_of h3
  have x0 : xs[0]? = some (xs[0]'(by omega)) := List.getElem?_eq_getElem (by omega)
  have x1 : xs[1]? = some (xs[1]'(by omega)) := List.getElem?_eq_getElem (by omega)
  have x2 : xs[2]? = some (xs[2]'(by omega)) := List.getElem?_eq_getElem (by omega)
  have x3 : xs[3]? = some (xs[3]'(by omega)) := List.getElem?_eq_getElem (by omega)
  have g0 := hg 0 f0 e0
  have g1 := hg 1 f1 e1
  have g2 := hg 2 f2 e2
  have g3 := hg 3 f3 e3
  rw [o0, s0, x0] at g0
  rw [o1, s1, x1] at g1
  rw [o2, s2, x2] at g2
  rw [o3, s3, x3] at g3
  obtain ⟨a, ha, _, wa⟩ := DataW.trod_int u0 g0
  obtain ⟨b, hb, _, wb⟩ := DataW.trod_int u1 g1
  obtain ⟨x, hxx, _, wx⟩ := DataW.trod_int u2 g2
  obtain ⟨A, cap, zs, hs, r1, r2, r3, r4⟩ := octets_of u3 ue ce g3 (fun p hp => hlt p (by
    have hps : y.2 = xs.flatMap (·.2) := congrArg Prod.snd hx
    rw [hps]
    exact List.mem_flatMap.2 ⟨_, List.getElem_mem _, hp⟩))
  refine ⟨⟨a, b, x, A, cap, zs⟩, ?_, wa, wb, wx, r1, r2, r3, r4⟩
  have q0 := get_of_one ha
  have q1 := get_of_one hb
  have q2 := get_of_one hxx
  have q3 := get_of_one hs
  have hl4 : cs.length = 4 := by omega
  match cs, hl4, q0, q1, q2, q3 with
  | [y0, y1, y2, y3], _, q0, q1, q2, q3 =>
    simp at q0 q1 q2 q3
    subst q0 q1 q2 q3
    rfl

/-- A slice of such ones that came in. -/
theorem open_steps {t e : TypeId} {fs : Array Field} {k0 k1 k2 : IntKind} (ht : P.underlying t = some (.slice e)) (he : P.underlying e = some (.struct fs)) (h0 : isInt P fs 0 0 k0 = true) (h1 : isInt P fs 1 1 k1 = true) (h2 : isInt P fs 2 2 k2 = true) (h3 : isBytes P fs 3 3 = true)
    (hsz : fs.size = 4) (hc : P.cellsOf e = 4) {v : Value} {d : DataW H} {ps : List MemPlace} (hval : Value.okWide P w .any b0 t v) (h : DataW.Trod enc P w 0 (fun _ => true) true t v d ps) (hlt : ∀ x ∈ ps, x.block < w.heap.size) :
    ∃ (A : Option Addr) (cap : Nat) (ss : List Stp), v = .slice A ss.length cap ∧ ss.length ≤ cap ∧ cap ≤ maxLen ∧ HoldsE (StpIn k0 k1 k2 w w.heap.size) 4 w w.heap.size A ss :=
  open_slice_of (StpIn k0 k1 k2 w w.heap.size) 4 ht hc (by omega) (fun _ _ _ h hp => read_iiib he h0 h1 h2 h3 hsz hc h hp) hval h hlt

/-- The steps at A, element by element. -/
theorem stepAt {k0 k1 k2 : IntKind} {w : World} {B : Nat} {A : Option Addr} {ss : List Stp} (h : HoldsE (StpIn k0 k1 k2 w B) 4 w B A ss) {i : Nat} (hi : i < ss.length) :
    ∃ b off : Nat, A = some ⟨b, off, none⟩ ∧ b < B ∧ w.cell? ⟨b, off + i * 4, none⟩ = some (.int k0 ss[i].a) ∧ w.cell? ⟨b, off + i * 4 + 1, none⟩ = some (.int k1 ss[i].b) ∧ w.cell? ⟨b, off + i * 4 + 2, none⟩ = some (.int k2 ss[i].x) ∧
      w.cell? ⟨b, off + i * 4 + 3, none⟩ = some (.slice ss[i].A ss[i].zs.length ss[i].cap) ∧ (Lit.int k0 ss[i].a).wf = true ∧ (Lit.int k1 ss[i].b).wf = true ∧ (Lit.int k2 ss[i].x).wf = true ∧
      ss[i].zs.length ≤ ss[i].cap ∧ ss[i].cap ≤ maxLen ∧ Octets ss[i].zs ∧ Holds w B .u8 ss[i].A ss[i].zs := by
  obtain ⟨b, off, rfl, hb, hc⟩ := h (by omega)
  obtain ⟨cs, ⟨rfl, r1, r2, r3, r4, r5, r6, r7⟩, _, hcs⟩ := hc i ss[i] (List.getElem?_eq_getElem hi)
  exact ⟨b, off, rfl, hb, by simpa using hcs 0 _ rfl, hcs 1 _ rfl, hcs 2 _ rfl, hcs 3 _ rfl, r1, r2, r3, r4, r5, r6, r7⟩

theorem steps_below {k0 k1 k2 : IntKind} {w w' : World} {B : Nat} {A : Option Addr} {ss : List Stp} (h : HoldsE (StpIn k0 k1 k2 w B) 4 w B A ss) (hb : Below B w w') : HoldsE (StpIn k0 k1 k2 w' B) 4 w' B A ss :=
  h.keep (fun _ hp => hb.cell hp) fun _ _ ⟨r0, r1, r2, r3, r4, r5, r6, r7⟩ => ⟨r0, r1, r2, r3, r4, r5, r6, r7.below hb⟩
end
end Go.Proofs.YtpnodocjpedcmaaDoor.Kit

namespace Go.Proofs.YtpnodocjpedcmaaDoor.Kit
open Go.ChangeShapes Go.WideShapes Go.ChangeAt Go.RowKit

/-- A row of bytes. -/
structure Rw where
  A : Option Addr
  cap : Nat
  zs : List Int

/-- How such a one lies in memory. -/
def RwIn (w : World) (B : Nat) (r : Rw) (cs : List Value) : Prop := cs = [.slice r.A r.zs.length r.cap] ∧ r.zs.length ≤ r.cap ∧ r.cap ≤ maxLen ∧ Octets r.zs ∧ Holds w B .u8 r.A r.zs

/-- The slice at A holds these rows of bytes, all below block B. -/
def HoldsW (w : World) (B : Nat) (A : Option Addr) (rs : List Rw) : Prop := HoldsE (RwIn w B) 1 w B A rs

section
variable {H : Type} {enc : TypeId × Value → H} {P : Program} {w w' : World} {b0 : Nat}
theorem open_rowsB {t u e : TypeId} (ht : P.underlying t = some (.slice u)) (hu : P.underlying u = some (.slice e)) (he : P.underlying e = some (.int .u8)) (hcu : P.cellsOf u = 1) (hce : P.cellsOf e = 1)
    {v : Value} {d : DataW H} {ps : List MemPlace} (hval : Value.okWide P w .any b0 t v) (h : DataW.Trod enc P w 0 (fun _ => true) true t v d ps) (hlt : ∀ x ∈ ps, x.block < w.heap.size) :
    ∃ (A : Option Addr) (cap : Nat) (rs : List Rw), v = .slice A rs.length cap ∧ rs.length ≤ cap ∧ cap ≤ maxLen ∧ HoldsW w w.heap.size A rs :=
  open_slice_of (RwIn w w.heap.size) 1 ht hcu (by omega) (fun _ _ _ h hp => by
    obtain ⟨A, cap, zs, rfl, r1, r2, r3, r4⟩ := octets_of hu he hce h hp
    exact ⟨⟨A, cap, zs⟩, rfl, r1, r2, r3, r4⟩) hval h hlt

theorem rwAt {B : Nat} {A : Option Addr} {rs : List Rw} (h : HoldsW w B A rs) {i : Nat} (hi : i < rs.length) :
    ∃ b off : Nat, A = some ⟨b, off, none⟩ ∧ b < B ∧ w.cell? ⟨b, off + i, none⟩ = some (.slice rs[i].A rs[i].zs.length rs[i].cap) ∧ rs[i].zs.length ≤ rs[i].cap ∧ rs[i].cap ≤ maxLen ∧ Octets rs[i].zs ∧ Holds w B .u8 rs[i].A rs[i].zs := by
  obtain ⟨b, off, rfl, hb, hc⟩ := h (by omega)
  obtain ⟨cs, ⟨rfl, r4, r5, r6, r7⟩, _, hcs⟩ := hc i rs[i] (List.getElem?_eq_getElem hi)
  exact ⟨b, off, rfl, hb, by simpa using hcs 0 _ rfl, r4, r5, r6, r7⟩

theorem HoldsW.below {B : Nat} {A : Option Addr} {rs : List Rw} (h : HoldsW w B A rs) (hb : Below B w w') : HoldsW w' B A rs :=
  h.keep (fun _ hp => hb.cell hp) fun _ _ ⟨r0, r4, r5, r6, r7⟩ => ⟨r0, r4, r5, r6, r7.below hb⟩

theorem HoldsW.more {B B' : Nat} {A : Option Addr} {rs : List Rw} (h : HoldsW w B A rs) (hB : B ≤ B') : HoldsW w B' A rs := by
  intro hx
  obtain ⟨b, off, e, hb, hc⟩ := h hx
  refine ⟨b, off, e, by omega, fun i r hi => ?_⟩
  obtain ⟨cs, ⟨r0, r4, r5, r6, r7⟩, h2, h3⟩ := hc i r hi
  exact ⟨cs, ⟨r0, r4, r5, r6, r7.more hB⟩, h2, h3⟩

/-- The first n rows. -/
theorem HoldsW.head {B : Nat} {A : Option Addr} {rs : List Rw} (h : HoldsW w B A rs) (n : Nat) : HoldsW w B A (rs.take n) := by
  intro hx
  simp only [List.length_take] at hx
  obtain ⟨b, off, e, hb, hc⟩ := h (by omega)
  refine ⟨b, off, e, hb, fun i r hi => hc i r ?_⟩
  rw [List.getElem?_take] at hi
  split at hi
  · exact hi
  · cases hi

/-- All rows' bytes. -/
def joinL (rs : List Rw) : List Int := rs.flatMap (·.zs)
theorem joinL_next {rs : List Rw} {i : Nat} (hi : i < rs.length) : joinL (rs.take (i + 1)) = joinL (rs.take i) ++ rs[i].zs := by
  unfold joinL
  rw [List.take_succ_eq_append_getElem hi, List.flatMap_append]
  simp
theorem joinL_le {rs : List Rw} {m : Nat} (h : ∀ r ∈ rs, r.zs.length ≤ m) : (joinL rs).length ≤ rs.length * m := by
  induction rs with
  | nil => simp [joinL]
  | cons r rs ih =>
    have h1 := ih (fun x hx => h x (by simp [hx]))
    have h2 := h r (by simp)
    unfold joinL at h1 ⊢
    rw [List.flatMap_cons, List.length_append, List.length_cons, Nat.succ_mul]
    omega
theorem joinL_octets {rs : List Rw} (h : ∀ r ∈ rs, Octets r.zs) : Octets (joinL rs) := by
  intro x hx
  obtain ⟨r, hr, hx⟩ := List.mem_flatMap.1 hx
  exact h r hr x hx
theorem HoldsW.octets {B : Nat} {A : Option Addr} {rs : List Rw} (h : HoldsW w B A rs) : ∀ r ∈ rs, Octets r.zs := by
  intro r hr
  obtain ⟨i, hi, rfl⟩ := List.mem_iff_getElem.1 hr
  obtain ⟨_, _, _, _, _, _, _, h6, _⟩ := rwAt h hi
  exact h6
end
end Go.Proofs.YtpnodocjpedcmaaDoor.Kit

namespace Go.Proofs.YtpnodocjpedcmaaDoor.Kit
open Go.ChangeShapes Go.WideShapes Go.ChangeAt Go.RowKit

/-- A row's slice. -/
def Rw.val (r : Rw) : Value := .slice r.A r.zs.length r.cap
/-- A row that may be. -/
def RwOk (w : World) (B : Nat) (r : Rw) : Prop := r.zs.length ≤ r.cap ∧ r.cap ≤ maxLen ∧ Octets r.zs ∧ Holds w B .u8 r.A r.zs

theorem RwOk.below {w w' : World} {B : Nat} {r : Rw} (h : RwOk w B r) (hb : Below B w w') : RwOk w' B r := ⟨h.1, h.2.1, h.2.2.1, h.2.2.2.below hb⟩
theorem RwOk.more {w : World} {B B' : Nat} {r : Rw} (h : RwOk w B r) (hb : B ≤ B') : RwOk w B' r := ⟨h.1, h.2.1, h.2.2.1, h.2.2.2.more hb⟩
theorem RwOk.on {w w' : World} {r : Rw} (h : RwOk w w.heap.size r) (hb : Below w.heap.size w w') : RwOk w' w'.heap.size r := (h.below hb).more hb.size
theorem RwOk.arr {w : World} {g : Nat} {t : TypeId} {xs : List Int} (h : Arr w g t .u8 xs) (ho : Octets xs) (hl : xs.length ≤ maxLen) : RwOk w w.heap.size ⟨some ⟨g, 0, none⟩, xs.length, xs⟩ :=
  ⟨Nat.le_refl _, hl, ho, h.holds_all⟩

theorem rows_laid {w : World} {t : TypeId} (rs : List Rw) (h : ∀ r ∈ rs, RwOk w w.heap.size r) :
    HoldsW (w.alloc (.cells (rs.map Rw.val).toArray t)) (w.alloc (.cells (rs.map Rw.val).toArray t)).heap.size (some ⟨w.heap.size, 0, none⟩) rs := by
  have bk := Block.new w t (rs.map Rw.val).toArray
  have hb := (Below.refl w.heap.size w).alloc (Nat.le_refl _) (.cells (rs.map Rw.val).toArray t)
  intro _
  refine ⟨w.heap.size, 0, rfl, by simp, fun i r hi => ?_⟩
  have hr := (h r (List.mem_of_getElem? hi)).on hb
  refine ⟨_, ⟨rfl, hr⟩, rfl, fun j v hj => ?_⟩
  have hj0 : j = 0 := by
    rcases j with _ | j
    · rfl
    · simp at hj
  subst hj0
  have hv : v = r.val := by simpa [Rw.val] using hj.symm
  subst hv
  rw [Nat.zero_add, Nat.mul_one, Nat.add_zero, bk.cell i]
  simp [hi]
end Go.Proofs.YtpnodocjpedcmaaDoor.Kit

namespace Go.Proofs.YtpnodocjpedcmaaDoor.Kit
open Go.ChangeShapes Go.WideShapes Go.ChangeAt Go.RowKit

theorem res_new (w : World) (t : TypeId) : Arr (w.alloc (.cells ((List.replicate 32 (0 : Int)).map (Value.int .u8)).toArray t)) w.heap.size t .u8 (List.replicate 32 0) := Arr.new w _ _ _
theorem arr_kept {w w' : World} {g : Nat} {t : TypeId} {k : IntKind} {xs : List Int} {o : Obj} (h : Arr w g t k xs) (g9 : (w.alloc o).grownBy w' (some w.heap.size)) : Arr w' g t k xs :=
  Arr.grown (h.alloc o) g9 (by intro e; injection e with e; have := Arr.lt h; omega)
theorem below_fill {B : Nat} {w0 w w' : World} {o : Obj} (h : Below B w0 w) (hB : B ≤ w.heap.size) (g9 : (w.alloc o).grownBy w' (some w.heap.size)) : Below B w0 w' :=
  (h.alloc hB o).trans (below_of_grown g9 (by simp; omega) fun b hb => by injection hb with hb; omega)
theorem Holds.prefix_ {w : World} {B : Nat} {k : IntKind} {A : Option Addr} {xs : List Int} (h : Holds w B k A xs) (n : Nat) : Holds w B k A (xs.take n) := by
  intro hx
  rw [List.length_take] at hx
  obtain ⟨b, off, e, hb, hc⟩ := h (by omega)
  refine ⟨b, off, e, hb, fun j hj => ?_⟩
  rw [List.length_take] at hj
  rw [hc j (by omega)]
  simp [List.getD, List.getElem?_take, show j < n by omega]
theorem Holds.on {w w' : World} {k : IntKind} {A : Option Addr} {xs : List Int} (h : Holds w w.heap.size k A xs) (hb : Below w.heap.size w w') : Holds w' w'.heap.size k A xs := (h.below hb).more hb.size
theorem Holds.fill {w w' : World} {k : IntKind} {A : Option Addr} {xs : List Int} {o : Obj} (h : Holds w w.heap.size k A xs) (g9 : (w.alloc o).grownBy w' (some w.heap.size)) : Holds w' w'.heap.size k A xs := h.on (below_fill (Below.refl _ _) (Nat.le_refl _) g9)

/-- Results: a whole array out of its block, and a plain value. -/
theorem results_row_tmp {P : Program} {fn : Func} {p q : Tmp} {ty : TypeId} (h : fn.results = #[.cell p ty, .tmp q]) (tmps : Array Value) (w : World) (g : Nat) (t : TypeId) (cs : Array Value) (fr : Nat × Nat) (d : TypeDesc)
    (hp : tmps.getD p undef = .pointer (some ⟨g, 0, none⟩)) (hg : w.heap[g]? = some (.cells cs t fr)) (v : Value) (hq : tmps.getD q undef = v)
    (hu : P.underlying ty = some d) (hd : (match d with | .struct _ | .array _ _ => true | _ => false) = true) (hi : (P.info? ty).map (·.size) = some cs.size) :
    (results fn tmps).run P w = .ok (.tuple #[.agg cs, v]) w := by
  have hp' : tmps[p]?.getD undef = .pointer (some ⟨g, 0, none⟩) := by simpa using hp
  have hq' : tmps[q]?.getD undef = v := by simpa using hq
  simp [results, h, hp', hq', asAddr, run_loadVar_row w g t ty cs fr d hg hu hd hi]
end Go.Proofs.YtpnodocjpedcmaaDoor.Kit

namespace Go.Proofs.YtpnodocjpedcmaaDoor.Pt
open Go.ChangeShapes Go.WideShapes Go.ChangeAt Go.RowKit Go.Proofs.YtpnodocjpedcmaaDoor.Kit

theorem str_cut (xs : List Int) (lo hi : Nat) : (strOfNums xs).extract lo hi = strOfNums ((xs.drop lo).take (hi - lo)) := by
  apply ByteArray.ext
  rw [ByteArray.data_extract]
  apply Array.toList_inj.1
  unfold strOfNums
  simp [List.map_take, List.map_drop]
theorem str_join (xs ys : List Int) : strOfNums xs ++ strOfNums ys = strOfNums (xs ++ ys) := by
  apply ByteArray.ext
  rw [ByteArray.data_append]
  unfold strOfNums
  simp
end Go.Proofs.YtpnodocjpedcmaaDoor.Pt

namespace Go.Proofs.YtpnodocjpedcmaaDoor.Sec
open Go.ChangeShapes Go.WideShapes Go.ChangeAt Go.RowKit Go.Proofs.YtpnodocjpedcmaaDoor.Kit

def strB : Option (List Int) → ByteArray
  | some xs => strOfNums xs
  | none => ⟨#[]⟩
def cellsF (p : Int × Option (List Int)) : List Value := [.int .i64 p.1, .string (strB p.2), .bool p.2.isNone]
/-- The slice at A holds these sectors; its memory lies below block B. -/
def HoldsF (w : World) (B : Nat) (A : Option Addr) (l : Sl) : Prop :=
  0 < l.length → ∃ b off : Nat, A = some ⟨b, off, none⟩ ∧ b < B ∧ ∀ (j : Nat) (p : Int × Option (List Int)), l[j]? = some p → w.rangeAt b (off + j * 3) (cellsF p)
theorem HoldsF.nil {w : World} {B : Nat} {A : Option Addr} : HoldsF w B A [] := fun h => absurd h (by simp)
theorem HoldsF.below {w w' : World} {B : Nat} {A : Option Addr} {l : Sl} (h : HoldsF w B A l) (hb : Below B w w') : HoldsF w' B A l := by
  intro hx
  obtain ⟨b, off, e, hB, hc⟩ := h hx
  exact ⟨b, off, e, hB, fun j p hj i u hu => (hb.cell (p := ⟨b, _, none⟩) hB).trans (hc j p hj i u hu)⟩
theorem HoldsF.more {w : World} {B B' : Nat} {A : Option Addr} {l : Sl} (h : HoldsF w B A l) (hB : B ≤ B') : HoldsF w B' A l := by
  intro hx
  obtain ⟨b, off, e, hb, hc⟩ := h hx
  exact ⟨b, off, e, by omega, hc⟩
theorem HoldsF.drewN {w : World} {B : Nat} {A : Option Addr} {l : Sl} (h : HoldsF w B A l) (n : Nat) : HoldsF (w.drewN n) B A l := h

/-- v is a row of sectors of the call's own. -/
def OwnF (w : World) (B : Nat) (v : Value) (l : Sl) : Prop := w.ownsRow B 95 3 v l.length (l.flatMap cellsF)
theorem flatF : ∀ (l : Sl) (i j : Nat) (p : Int × Option (List Int)) (u : Value), l[i]? = some p → (cellsF p)[j]? = some u → (l.flatMap cellsF)[i * 3 + j]? = some u
  | [], i, j, s, u, h, _ => by simp at h
  | a :: l, 0, j, s, u, h, hu => by
    simp at h
    subst h
    have hj : j < (cellsF a).length := (List.getElem?_eq_some_iff.1 hu).1
    rw [List.flatMap_cons, Nat.zero_mul, Nat.zero_add, List.getElem?_append_left hj]
    exact hu
  | a :: l, i + 1, j, s, u, h, hu => by
    have ih := flatF l i j s u (by simpa using h) hu
    rw [List.flatMap_cons, List.getElem?_append_right (by simp [cellsF]; omega)]
    have e : (i + 1) * 3 + j - (cellsF a).length = i * 3 + j := by simp [cellsF]; omega
    rw [e]
    exact ih
section
variable {w w' : World} {B : Nat} {v : Value} {l : Sl}
theorem OwnF.nil (w : World) (B : Nat) : OwnF w B (.slice none 0 0) [] := World.ownsRow_nil w B _ 3
theorem OwnF.empty {B : Nat} (w : World) (hB : B ≤ w.heap.size) : OwnF (w.alloc (.cells #[] 95)) B (.slice (some ⟨w.heap.size, 0, none⟩) 0 0) [] :=
  World.ownsRow_lit (size := 3) w #[] 0 hB (Nat.zero_le _) rfl
theorem OwnF.opened (h : OwnF w B v l) : ∃ (A : Option Addr) (c : Nat), v = .slice A l.length c ∧ l.length ≤ c ∧ c ≤ maxLen ∧ HoldsF w w.heap.size A l := by
  rcases h.2 with ⟨rfl, h0⟩ | ⟨g, cap, cur, rfl, hb, hg2, hnc, hcm, hcs, htake⟩
  · refine ⟨none, 0, by rw [h0], by omega, Nat.zero_le _, fun hx => by omega⟩
  · refine ⟨some ⟨g, 0, none⟩, cap, rfl, hnc, hcm, fun hx => ⟨g, 0, rfl, (Array.getElem?_eq_some_iff.1 hg2).1, fun i p hi j u hu => ?_⟩⟩
    have hcell := World.ownsRow.cells h (g := g) rfl (i * 3 + j) u (flatF l i j p u hi hu)
    rw [add_plain] at hcell
    rw [Nat.zero_add] at hcell ⊢
    exact hcell
theorem OwnF.lt (h : OwnF w B v l) : ∀ g, v.ownBlock = some g → B ≤ g ∧ g < w.heap.size := World.ownsRow.lt h
theorem OwnF.alloc (h : OwnF w B v l) (o : Obj) : OwnF (w.alloc o) B v l := World.ownsRow.alloc h o
theorem OwnF.drewN (h : OwnF w B v l) (n : Nat) : OwnF (w.drewN n) B v l := h
theorem OwnF.mono {B' : Nat} (h : OwnF w B v l) (hB : B' ≤ B) : OwnF w B' v l := by
  rcases h.2 with ⟨rfl, h0⟩ | ⟨g, cap, cur, rfl, hbg, hg, hnc, hcm, hcs, htake⟩
  · exact ⟨h.1, .inl ⟨rfl, h0⟩⟩
  · exact ⟨h.1, .inr ⟨g, cap, cur, rfl, by omega, hg, hnc, hcm, hcs, htake⟩⟩
theorem OwnF.out {S : Nat → Prop} (h : OwnF w B v l) (ho : TurnsIn S w w') (hv : ∀ g, v.ownBlock = some g → ¬ S g) : OwnF w' B v l := by
  rcases h.2 with ⟨rfl, h0⟩ | ⟨g, cap, cur, rfl, hbg, hg, hnc, hcm, hcs, htake⟩
  · exact ⟨h.1, .inl ⟨rfl, h0⟩⟩
  · exact ⟨h.1, .inr ⟨g, cap, cur, rfl, hbg, (ho.block g (Array.getElem?_eq_some_iff.1 hg).1 (hv g rfl)).trans hg, hnc, hcm, hcs, htake⟩⟩
theorem OwnF.turned (h : OwnF w B v l) (t : TurnsIn (fun b => v.ownBlock = some b) w w') (hB : B ≤ w.heap.size) : Below B w w' :=
  t.toBelow hB fun b hb he => by have := h.lt b he; omega
theorem elemF : Tryd.prog.underlying 28 = some (.slice 95) ∧ (Tryd.prog.info? 95).map (fun i => (i.zero, i.size, i.bytes)) = some (some (.agg #[.int .i64 0, .string ⟨#[]⟩, .bool false]), 3, 32) := by
  constructor <;> kernel_rfl

theorem run_append_F (h : OwnF w B v l) (p : Int × Option (List Int)) (c : Nat) (hsz : l.length ≤ 1000000000) (hbase : B ≤ w.heap.size) (ty : TypeId) :
    ∃ A' c' w', (Builtin.append_ #[28, 28] ty #[v, .slice (some ⟨w.heap.size, 0, none⟩) 1 c]).run Tryd.prog (w.alloc (.cells (cellsF p).toArray 95)) = .ok (.slice A' (l.length + 1) c') w' ∧
      OwnF w' B (.slice A' (l.length + 1) c') (l ++ [p]) ∧ TurnsIn (fun b => v.ownBlock = some b) w w' := by
  obtain ⟨ht, hinfo⟩ := elemF
  obtain ⟨i, hi, hz, hs, hby⟩ := info_parts hinfo
  have hnew := Block.new w 95 (cellsF p).toArray
  obtain ⟨g, cap, w', hrun, h2, h3, _, _⟩ := run_append_lies (P := Tryd.prog) (w.alloc (.cells (cellsF p).toArray 95)) 28 ty B 95 i _ 3 32 ht hi hz hs hby rfl (by omega) v l.length (l.flatMap cellsF) (h.alloc _)
    ⟨w.heap.size, 0, none⟩ 1 c (cellsF p) (by simp [cellsF]) (by
      intro j u hu
      have := World.news_of_block hnew j u (by simpa using hu)
      exact this) (by
      intro u hu
      simp [cellsF] at hu
      rcases hu with rfl | rfl | rfl <;> rfl) (by omega) (by unfold maxLen; omega) (by omega) (by simp; omega) _ rfl
  refine ⟨some ⟨g, 0, none⟩, cap, w', hrun, ?_, ((TurnsIn.refl _ w).alloc _).trans (.ofGrown h3 fun b hb => hb)⟩
  unfold OwnF
  rw [List.length_append, List.flatMap_append]
  simpa using h2
theorem wpList_append_F {ops : Array Oper} {rest : List Oper} {o : Oper} {a : Act} {Q : Exit → Act → World → Prop} (hgd : o.guard = none) (s x : Operand)
    (ho : o.op = Op.call { callee := Callee.builtin Builtin.append, args := #[s, x], argTypes := #[28, 28] })
    (p : Int × Option (List Int)) (hown : OwnF w B v l) (hs : a.eval s = v) {c : Nat} (hx : a.eval x = .slice (some ⟨w.heap.size, 0, none⟩) 1 c) (hsz : l.length ≤ 1000000000) (hbase : B ≤ w.heap.size)
    (hK : ∀ v' w', OwnF w' B v' (l ++ [p]) → Below B w w' → wpList Tryd.prog ops Q rest (a.put o.dst v') w') :
    wpList Tryd.prog ops Q (o :: rest) a (w.alloc (.cells #[.int .i64 p.1, .string (strB p.2), .bool p.2.isNone] 95)) := by
  refine wpList_plain hgd fun K hK2 => ?_
  obtain ⟨A', c', w', hrun, h2, h3⟩ := run_append_F hown p c hsz hbase o.type
  have hrun' : (Builtin.append_ #[28, 28] o.type #[v, .slice (some ⟨w.heap.size, 0, none⟩) 1 c]).run Tryd.prog (w.alloc (.cells #[.int .i64 p.1, .string (strB p.2), .bool p.2.isNone] 95)) = .ok (.slice A' (l.length + 1) c') w' := hrun
  unfold Oper.wp
  simp only [execOp, ho, resolve, invoke, builtin, Sem.run_bind, Sem.run_pure, Result.andThen_ok, List.map_toArray, List.map_cons, List.map_nil, hs, hx, hrun']
  exact hK2 _ _ (hK _ _ h2 (hown.turned h3 hbase))
end

/-- find: where a sector stands. -/
def FindsAt (l : Sl) (k : Int) (w : World) (e : Ending) (w' : World) : Prop :=
  w = w' ∧ match getS l k with
    | none => e = .returned (.int .i64 (-1))
    | some o => ∃ i : Nat, l[i]? = some (k, o) ∧ e = .returned (.int .i64 i)
theorem getS_take {l : Sl} {k : Int} {j : Nat} (hj : j < l.length) (h : getS (l.take j) k = none) : getS l k = if (l.getD j (0, none)).1 = k then some (l.getD j (0, none)).2 else getS (l.drop (j + 1)) k := by
  induction l generalizing j with
  | nil => simp at hj
  | cons q r ih =>
    obtain ⟨i, u⟩ := q
    cases j with
    | zero => rfl
    | succ n =>
      have e1 : getS ((i, u) :: r.take n) k = if i = k then some u else getS (r.take n) k := rfl
      rw [List.take_succ_cons, e1] at h
      have e2 : getS ((i, u) :: r) k = if i = k then some u else getS r k := rfl
      by_cases c : i = k
      · rw [if_pos c] at h; cases h
      · rw [if_neg c] at h
        rw [e2, if_neg c, ih (by simpa using hj) h]
        simp
theorem getS_take_next {l : Sl} {k : Int} {j : Nat} (hj : j < l.length) (h : getS (l.take j) k = none) (hk : (l.getD j (0, none)).1 ≠ k) : getS (l.take (j + 1)) k = none := by
  induction l generalizing j with
  | nil => simp at hj
  | cons q r ih =>
    obtain ⟨i, u⟩ := q
    cases j with
    | zero =>
      have e1 : getS ((i, u) :: ([] : Sl)) k = if i = k then some u else none := rfl
      simp only [Nat.zero_add, List.take_succ_cons, List.take_zero]
      rw [e1, if_neg (by simpa using hk)]
    | succ n =>
      have e1 : ∀ m, getS ((i, u) :: r.take m) k = if i = k then some u else getS (r.take m) k := fun _ => rfl
      rw [List.take_succ_cons, e1] at h ⊢
      by_cases c : i = k
      · rw [if_pos c] at h; cases h
      · rw [if_neg c] at h ⊢
        exact ih (by simpa using hj) h (by simpa using hk)

set_option maxRecDepth 100000 in
set_option maxHeartbeats 1600000 in
theorem find_any (A : Option Addr) (l : Sl) (c : Nat) (k : Int) (w : World) (hl : l.length ≤ 1000000000) (hr : HoldsF w w.heap.size A l) :
    Calls Tryd.prog 80 #[.slice A l.length c, .int .i64 k] w (FindsAt l k w) := by
  have HT := Lib.hid (fun j (h : j < l.length) => @getS_take l k j h)
  have HN := Lib.hid (fun j (h : j < l.length) => @getS_take_next l k j h)
  have HE : Hid (l.take l.length = l) := Lib.hid List.take_length
  go_enter Tryd.func80, Tryd.ntmps80
  go_wp2
  go_loop [8] (fun i => ∃ j : Nat, j ≤ l.length ∧ i = .int .i64 j ∧ getS (l.take j) k = none) (fun i => l.length - (intOf i).toNat)
  case atStart => exact ⟨0, Nat.zero_le _, rfl, rfl⟩
  case round =>
    obtain ⟨j, hj, rfl, hnone⟩ := hrel
    have Ha := Lib.hid hnone
    clear hnone
    by_cases hlt : j < l.length
    · obtain ⟨b, off, rfl, hb, hc⟩ := hr (by omega)
      have hp : l[j]? = some (l.getD j (0, none)) := by simp [List.getD, List.getElem?_eq_getElem hlt]
      have hcj : w.cell? ⟨b, off + j * 3, none⟩ = some (.int .i64 (l.getD j (0, none)).1) := hc j _ hp 0 _ rfl
      have hnext := Lib.hid (HN.out j hlt Ha.out)
      have hthis := Lib.hid (HT.out j hlt Ha.out)
      have HP := Lib.hid hp
      clear hc hp
      generalize l.getD j (0, none) = q at *
      have d1 : decide ((j : Int) < (l.length : Int)) = true := decide_eq_true (by omega)
      have d2 : decide (j < l.length) = true := decide_eq_true hlt
      by_cases hq : q.1 = k
      · have e1 : (q.1 == k) = true := by simpa using hq
        have hg : getS l k = some q.2 := by rw [hthis.out, if_pos hq]
        have Hg := Lib.hid hg
        have HQ := Lib.hid hq
        clear hg hq
        go_wp2
        go_ret
        refine ⟨rfl, ?_⟩
        rw [Hg.out]
        exact ⟨j, by rw [HP.out, ← HQ.out], rfl⟩
      · have e1 : (q.1 == k) = false := by simpa using hq
        have HQ := Lib.hid hq
        clear hq
        go_wp2
        go_round
        case rel => exact ⟨j + 1, hlt, by go_num, hnext.out HQ.out⟩
        case measure => simp [intOf] <;> omega
    · obtain rfl : j = l.length := by omega
      have d1 : decide ((l.length : Int) < (l.length : Int)) = false := decide_eq_false (by omega)
      have d2 : decide (l.length < l.length) = false := decide_eq_false (by omega)
      rw [HE.out] at Ha
      go_wp2
      go_ret
      refine ⟨rfl, ?_⟩
      rw [Ha.out]
      rfl
end Go.Proofs.YtpnodocjpedcmaaDoor.Sec

namespace Go.Proofs.YtpnodocjpedcmaaDoor.Sha
open Go.ChangeShapes Go.WideShapes Go.ChangeAt Go.RowKit Go.Proofs.YtpnodocjpedcmaaDoor.Kit

/-- x with its bits moved n places down, round the end. -/
def rot (x : Int) (n : Nat) : Int := bits BinOp.or .u32 (x * 2 ^ (32 - n) % 4294967296) (x / 2 ^ n)

theorem low_five : ∀ n : Nat, n < 32 → 1 ≤ n → bits BinOp.and .u64 (IntKind.u64.wrap (-(n : Int))) 31 = ((32 - n : Nat) : Int) := by decide +kernel

set_option maxHeartbeats 1600000 in
theorem rotate_any (x : Int) (n : Nat) (w : World) (hx : 0 ≤ x ∧ x ≤ 4294967295) (hn : 1 ≤ n ∧ n ≤ 31) :
    Calls Tryd.prog 117 #[.int .u32 x, .int .i64 (-(n : Int))] w fun e w' => e = .returned (.int .u32 (rot x n)) ∧ w = w' := by
  have k0 := low_five n (by omega) hn.1
  have hr : rot x n = bits BinOp.or .u32 (x * 2 ^ (32 - n) % 4294967296) (x / 2 ^ n) := rfl
  obtain ⟨m, hm⟩ : ∃ m, 32 - n = m := ⟨_, rfl⟩
  rw [hm] at k0 hr
  have hs : (32 : Int) - (m : Int) = (n : Int) := by omega
  have hm2 : m ≤ 31 := by omega
  go_enter Tryd.func117, Tryd.ntmps117
  go_wp2_with fail
  go_ret
  exact ⟨by rw [hr]; rfl, rfl⟩

set_option maxHeartbeats 1600000 in
theorem turned_any (x N : Int) (n : Nat) (w : World) (hN : N = n) (hx : 0 ≤ x ∧ x ≤ 4294967295) (hn : 1 ≤ n ∧ n ≤ 31) :
    Calls Tryd.prog 104 #[.int .u32 x, .int .i64 N] w fun e w' => e = .returned (.int .u32 (rot x n)) ∧ w = w' := by
  subst hN
  go_enter Tryd.func104, Tryd.ntmps104
  go_wp2_with (go_at_call 117; refine (rotate_any x n w hx hn).mono ?_; rintro e w' ⟨rfl, rfl⟩)
  go_ret
  exact ⟨rfl, rfl⟩

theorem or_comm32 (a b : Int) : bits BinOp.or .u32 a b = bits BinOp.or .u32 b a := by simp only [bits, BitVec.or_comm]

set_option maxHeartbeats 1600000 in
theorem turn_any (x N : Int) (n : Nat) (w : World) (hN : N = n) (hx : 0 ≤ x ∧ x ≤ 4294967295) (hn : 1 ≤ n ∧ n ≤ 31) :
    Calls Tryd.prog 116 #[.int .u32 x, .int .i64 N] w fun e w' => e = .returned (.int .u32 (rot x n)) ∧ ∃ m, w' = w.drewN m := by
  subst hN
  have hr : rot x n = bits BinOp.or .u32 (x / 2 ^ n) (x * 2 ^ (32 - n) % 4294967296) := or_comm32 _ _
  obtain ⟨m, hm⟩ : ∃ m, 32 - n = m := ⟨_, rfl⟩
  rw [hm] at hr
  have hs : (32 : Int) - (n : Int) = (m : Int) := by omega
  have hm2 : m ≤ 31 := by omega
  go_enter Tryd.func116, Tryd.ntmps116
  go_wp2_with fail
  go_quiet (fail)
  go_wp2_with fail
  go_ret
  exact ⟨by rw [hr]; rfl, _, rfl⟩

theorem or_bd (a b : Int) : 0 ≤ bits BinOp.or .u32 a b ∧ bits BinOp.or .u32 a b ≤ 4294967295 := by
  show 0 ≤ IntKind.u32.wrap _ ∧ IntKind.u32.wrap _ ≤ 4294967295
  rw [IntKind.wrap_u32]
  omega
theorem rot_bd (x : Int) (n : Nat) : 0 ≤ rot x n ∧ rot x n ≤ 4294967295 := or_bd _ _
theorem and_bd (a b : Int) : 0 ≤ bits BinOp.and .u32 a b ∧ bits BinOp.and .u32 a b ≤ 4294967295 := by
  show 0 ≤ IntKind.u32.wrap _ ∧ IntKind.u32.wrap _ ≤ 4294967295
  rw [IntKind.wrap_u32]
  omega
theorem xor_bd (a b : Int) : 0 ≤ bits BinOp.xor .u32 a b ∧ bits BinOp.xor .u32 a b ≤ 4294967295 := by
  show 0 ≤ IntKind.u32.wrap _ ∧ IntKind.u32.wrap _ ≤ 4294967295
  rw [IntKind.wrap_u32]
  omega
end Go.Proofs.YtpnodocjpedcmaaDoor.Sha

namespace Go.Proofs.YtpnodocjpedcmaaDoor.Sha
open Go.ChangeShapes Go.WideShapes Go.ChangeAt Go.RowKit Go.Proofs.YtpnodocjpedcmaaDoor.Kit

theorem pick_nat (e f g : Nat) (he : e < 4294967296) : ((e &&& f) ^^^ ((4294967295 ^^^ e) &&& g)) = ((e &&& f) ||| ((4294967295 ^^^ e) &&& g)) := by
  apply Nat.eq_of_testBit_eq
  intro i
  rw [Nat.testBit_xor, Nat.testBit_or, Nat.testBit_and, Nat.testBit_and, Nat.testBit_xor]
  have h1 : Nat.testBit 4294967295 i = decide (i < 32) := Nat.testBit_two_pow_sub_one 32 i
  rw [h1]
  by_cases hi : i < 32
  · rw [decide_eq_true hi]
    cases e.testBit i <;> cases f.testBit i <;> cases g.testBit i <;> rfl
  · have h2 : e.testBit i = false := Nat.testBit_lt_two_pow (Nat.lt_of_lt_of_le (show e < 2 ^ 32 by omega) (Nat.pow_le_pow_right (n := 2) (by decide) (by omega)))
    rw [h2, decide_eq_false hi]
    cases f.testBit i <;> cases g.testBit i <;> rfl

theorem most_nat (a b c : Nat) : (((a &&& b) ^^^ (a &&& c)) ^^^ (b &&& c)) = (((a &&& b) ||| (a &&& c)) ||| (b &&& c)) := by
  apply Nat.eq_of_testBit_eq
  intro i
  simp only [Nat.testBit_xor, Nat.testBit_or, Nat.testBit_and]
  cases a.testBit i <;> cases b.testBit i <;> cases c.testBit i <;> rfl

def W32 (x : Int) : Prop := 0 ≤ x ∧ x ≤ 4294967295

theorem W32.nat {x : Int} (h : W32 x) : ∃ n : Nat, x = n ∧ n < 4294967296 := by
  obtain ⟨n, rfl⟩ := Int.eq_ofNat_of_zero_le h.1
  exact ⟨n, rfl, by have := h.2; omega⟩

def picks (e f g : Int) : Int := bits BinOp.xor .u32 (bits BinOp.and .u32 e f) (bits BinOp.and .u32 (bits BinOp.xor .u32 IntKind.u32.max e) g)
def most (a b c : Int) : Int := bits BinOp.xor .u32 (bits BinOp.xor .u32 (bits BinOp.and .u32 a b) (bits BinOp.and .u32 a c)) (bits BinOp.and .u32 b c)

theorem and_lt {a : Nat} (b : Nat) (h : a < 4294967296) : a &&& b < 4294967296 := Nat.lt_of_le_of_lt Nat.and_le_left h
theorem xor_lt {a b : Nat} (h : a < 4294967296) (h2 : b < 4294967296) : a ^^^ b < 4294967296 := Nat.xor_lt_two_pow (n := 32) h h2
theorem or_lt {a b : Nat} (h : a < 4294967296) (h2 : b < 4294967296) : a ||| b < 4294967296 := Nat.or_lt_two_pow (n := 32) h h2

theorem picks_or {e f g : Int} (he : W32 e) (hf : W32 f) (hg : W32 g) : bits BinOp.or .u32 (bits BinOp.and .u32 e f) (bits BinOp.and .u32 (bits BinOp.xor .u32 IntKind.u32.max e) g) = picks e f g := by
  obtain ⟨e, rfl, ke⟩ := he.nat
  obtain ⟨f, rfl, kf⟩ := hf.nat
  obtain ⟨g, rfl, kg⟩ := hg.nat
  unfold picks
  rw [show IntKind.u32.max = ((4294967295 : Nat) : Int) by rfl, u32_xor_nat _ _ (by decide) ke, u32_and_nat e f ke kf, u32_and_nat _ g (xor_lt (by decide) ke) kg, u32_or_nat _ _ (and_lt f ke) (and_lt g (xor_lt (by decide) ke)), u32_xor_nat _ _ (and_lt f ke) (and_lt g (xor_lt (by decide) ke)), pick_nat e f g ke]

theorem most_or {a b c : Int} (ha : W32 a) (hb : W32 b) (hc : W32 c) : bits BinOp.or .u32 (bits BinOp.or .u32 (bits BinOp.and .u32 a b) (bits BinOp.and .u32 a c)) (bits BinOp.and .u32 b c) = most a b c := by
  obtain ⟨a, rfl, ka⟩ := ha.nat
  obtain ⟨b, rfl, kb⟩ := hb.nat
  obtain ⟨c, rfl, kc⟩ := hc.nat
  unfold most
  rw [u32_and_nat a b ka kb, u32_and_nat a c ka kc, u32_and_nat b c kb kc, u32_or_nat _ _ (and_lt b ka) (and_lt c ka), u32_xor_nat _ _ (and_lt b ka) (and_lt c ka), u32_or_nat _ _ (or_lt (and_lt b ka) (and_lt c ka)) (and_lt c kb), u32_xor_nat _ _ (xor_lt (and_lt b ka) (and_lt c ka)) (and_lt c kb), most_nat a b c]
end Go.Proofs.YtpnodocjpedcmaaDoor.Sha

namespace Go.Proofs.YtpnodocjpedcmaaDoor.Sha
open Go.ChangeShapes Go.WideShapes Go.ChangeAt Go.RowKit Go.Proofs.YtpnodocjpedcmaaDoor.Kit

/-- The sum of two words. -/
def add32 (a b : Int) : Int := (a + b) % 4294967296
theorem add32_bd (a b : Int) : W32 (add32 a b) := by unfold add32 W32; omega
theorem add32_wrap (a b : Int) : IntKind.u32.wrap (a + b) = add32 a b := by rw [IntKind.wrap_u32]; rfl
theorem add32_comm (a b : Int) : add32 a b = add32 b a := by unfold add32; rw [Int.add_comm]

theorem add32_4 (a b c d : Int) : add32 (add32 (add32 a b) c) d = (a + b + c + d) % 4294967296 := by unfold add32; omega
theorem add32_5 (a b c d e : Int) : add32 (add32 (add32 (add32 a b) c) d) e = (a + b + c + d + e) % 4294967296 := by unfold add32; omega

def sig0 (x : Int) : Int := bits BinOp.xor .u32 (bits BinOp.xor .u32 (rot x 7) (rot x 18)) (x / 8)
def sig1 (x : Int) : Int := bits BinOp.xor .u32 (bits BinOp.xor .u32 (rot x 17) (rot x 19)) (x / 1024)
def sum0 (x : Int) : Int := bits BinOp.xor .u32 (bits BinOp.xor .u32 (rot x 2) (rot x 13)) (rot x 22)
def sum1 (x : Int) : Int := bits BinOp.xor .u32 (bits BinOp.xor .u32 (rot x 6) (rot x 11)) (rot x 25)

/-- The i-th word of bytes. -/
def wordB (bs : List Int) (i : Nat) : Int :=
  bits BinOp.or .u32 (bits BinOp.or .u32 (bits BinOp.or .u32 (bs.getD (4 * i) 0 * 16777216) (bs.getD (4 * i + 1) 0 * 65536)) (bs.getD (4 * i + 2) 0 * 256)) (bs.getD (4 * i + 3) 0)
def mixW (l : List Int) (n : Nat) : Int := add32 (add32 (add32 (l.getD (n - 16) 0) (sig0 (l.getD (n - 15) 0))) (l.getD (n - 7) 0)) (sig1 (l.getD (n - 2) 0))
/-- The first n words of a block. -/
def sched (bs : List Int) : Nat → List Int
  | 0 => []
  | n + 1 => sched bs n ++ [if n < 16 then wordB bs n else mixW (sched bs n) n]

theorem sched_length (bs : List Int) : ∀ n, (sched bs n).length = n
  | 0 => rfl
  | n + 1 => by rw [sched, List.length_append, sched_length bs n]; rfl

theorem sched_bd (bs : List Int) : ∀ n, ∀ x ∈ sched bs n, W32 x
  | 0, x, h => by simp [sched] at h
  | n + 1, x, h => by
    rw [sched] at h
    rcases List.mem_append.1 h with h | h
    · exact sched_bd bs n x h
    · obtain rfl := List.mem_singleton.1 h
      split
      · exact or_bd _ _
      · exact add32_bd _ _

theorem sched_get (bs : List Int) (n i : Nat) : W32 ((sched bs n).getD i 0) := by
  rw [List.getD_eq_getElem?_getD]
  cases h : (sched bs n)[i]? with
  | none => unfold W32; simp
  | some x => exact sched_bd bs n x (List.mem_of_getElem? h)

/-- A list, with zeros up to 64. -/
def padZ (l : List Int) : List Int := l ++ List.replicate (64 - l.length) 0
theorem padZ_length {l : List Int} (h : l.length ≤ 64) : (padZ l).length = 64 := by unfold padZ; simp; omega
theorem padZ_nil : padZ [] = List.replicate 64 0 := rfl
theorem padZ_full {l : List Int} (h : l.length = 64) : padZ l = l := by unfold padZ; rw [h]; simp
theorem padZ_get {l : List Int} {i : Nat} (h : i < l.length) : (padZ l)[i]?.getD 0 = l.getD i 0 := by
  unfold padZ
  rw [List.getElem?_append_left h]
  rfl
theorem padZ_set {l : List Int} {x : Int} (h : l.length < 64) : (padZ l).set l.length x = padZ (l ++ [x]) := by
  unfold padZ
  obtain ⟨k, hk⟩ : ∃ k, 64 - l.length = k + 1 := ⟨63 - l.length, by omega⟩
  rw [hk, List.replicate_succ, List.set_append, if_neg (by omega), Nat.sub_self, List.set_cons_zero, List.length_append, List.length_singleton, show 64 - (l.length + 1) = k by omega, List.append_assoc]
  rfl

theorem sched_set (bs : List Int) (n : Nat) (h : n < 64) : (padZ (sched bs n)).set n (if n < 16 then wordB bs n else mixW (sched bs n) n) = padZ (sched bs (n + 1)) := by
  have := padZ_set (l := sched bs n) (x := if n < 16 then wordB bs n else mixW (sched bs n) n) (by rw [sched_length]; omega)
  rw [sched_length] at this
  rw [this, sched]

/-- l is the first n words. -/
structure IsSched (bs : List Int) (n : Nat) (l : List Int) : Prop where
  out : l = sched bs n
theorem IsSched.length {bs : List Int} {n : Nat} {l : List Int} (h : IsSched bs n l) : l.length = n := by rw [h.out, sched_length]
theorem IsSched.get {bs : List Int} {n : Nat} {l : List Int} (h : IsSched bs n l) (i : Nat) : W32 (l.getD i 0) := by rw [h.out]; exact sched_get bs n i
theorem IsSched.next {bs : List Int} {n : Nat} {l : List Int} (h : IsSched bs n l) (hn : n < 64) :
    ∃ l', IsSched bs (n + 1) l' ∧ (padZ l).set n (if n < 16 then wordB bs n else mixW l n) = padZ l' :=
  ⟨_, ⟨rfl⟩, by have := sched_set bs n hn; rw [← h.out] at this; exact this⟩

/-- One round over a state of eight words. -/
def roundS (s : List Int) (k x : Int) : List Int :=
  let t := add32 (add32 (add32 (add32 (s.getD 7 0) (sum1 (s.getD 4 0))) (picks (s.getD 4 0) (s.getD 5 0) (s.getD 6 0))) k) x
  let u := add32 (sum0 (s.getD 0 0)) (most (s.getD 0 0) (s.getD 1 0) (s.getD 2 0))
  [add32 t u, s.getD 0 0, s.getD 1 0, s.getD 2 0, add32 (s.getD 3 0) t, s.getD 4 0, s.getD 5 0, s.getD 6 0]

def cubesL : List Int := [0x428a2f98, 0x71374491, 0xb5c0fbcf, 0xe9b5dba5, 0x3956c25b, 0x59f111f1, 0x923f82a4, 0xab1c5ed5, 0xd807aa98, 0x12835b01, 0x243185be, 0x550c7dc3, 0x72be5d74, 0x80deb1fe, 0x9bdc06a7, 0xc19bf174, 0xe49b69c1, 0xefbe4786, 0x0fc19dc6, 0x240ca1cc, 0x2de92c6f, 0x4a7484aa, 0x5cb0a9dc, 0x76f988da, 0x983e5152, 0xa831c66d, 0xb00327c8, 0xbf597fc7, 0xc6e00bf3, 0xd5a79147, 0x06ca6351, 0x14292967, 0x27b70a85, 0x2e1b2138, 0x4d2c6dfc, 0x53380d13, 0x650a7354, 0x766a0abb, 0x81c2c92e, 0x92722c85, 0xa2bfe8a1, 0xa81a664b, 0xc24b8b70, 0xc76c51a3, 0xd192e819, 0xd6990624, 0xf40e3585, 0x106aa070, 0x19a4c116, 0x1e376c08, 0x2748774c, 0x34b0bcb5, 0x391c0cb3, 0x4ed8aa4a, 0x5b9cca4f, 0x682e6ff3, 0x748f82ee, 0x78a5636f, 0x84c87814, 0x8cc70208, 0x90befffa, 0xa4506ceb, 0xbef9a3f7, 0xc67178f2]

/-- The state behind n rounds. -/
def roundsS (ws : List Int) : Nat → List Int → List Int
  | 0, s => s
  | n + 1, s => roundS (roundsS ws n s) (cubesL.getD n 0) (ws.getD n 0)

/-- Eight words. -/
def St8 (s : List Int) : Prop := s.length = 8 ∧ ∀ x ∈ s, W32 x

theorem St8.open_ {s : List Int} (h : St8 s) : ∃ a b c d e f g i : Int, s = [a, b, c, d, e, f, g, i] ∧ W32 a ∧ W32 b ∧ W32 c ∧ W32 d ∧ W32 e ∧ W32 f ∧ W32 g ∧ W32 i := by
  obtain ⟨hl, hb⟩ := h
  match s, hl with
  | [a, b, c, d, e, f, g, i], _ => exact ⟨a, b, c, d, e, f, g, i, rfl, hb a (by simp), hb b (by simp), hb c (by simp), hb d (by simp), hb e (by simp), hb f (by simp), hb g (by simp), hb i (by simp)⟩

theorem roundS_st {s : List Int} (h : St8 s) (k x : Int) : St8 (roundS s k x) := by
  obtain ⟨a, b, c, d, e, f, g, i, rfl, h1, h2, h3, h4, h5, h6, h7, h8⟩ := h.open_
  refine ⟨rfl, fun y hy => ?_⟩
  simp only [roundS, List.mem_cons, List.not_mem_nil, or_false] at hy
  rcases hy with rfl | rfl | rfl | rfl | rfl | rfl | rfl | rfl
  · exact add32_bd _ _
  · exact h1
  · exact h2
  · exact h3
  · exact add32_bd _ _
  · exact h5
  · exact h6
  · exact h7

theorem roundsS_st (ws : List Int) {s : List Int} (h : St8 s) : ∀ n, St8 (roundsS ws n s)
  | 0 => h
  | n + 1 => roundS_st (roundsS_st ws h n) _ _

/-- A state, mixed with a block of 64 bytes. -/
def mixS (s bs : List Int) : List Int := List.zipWith add32 s (roundsS (sched bs 64) 64 s)

theorem mixS_st {s : List Int} (bs : List Int) (h : St8 s) : St8 (mixS s bs) := by
  obtain ⟨a, b, c, d, e, f, g, i, rfl, _⟩ := h.open_
  have h2 := roundsS_st (sched bs 64) h 64
  unfold mixS
  obtain ⟨a', b', c', d', e', f', g', i', hr, _⟩ := h2.open_
  rw [hr]
  refine ⟨rfl, fun y hy => ?_⟩
  simp only [List.zipWith_cons_cons, List.zipWith_nil_left, List.mem_cons, List.not_mem_nil, or_false] at hy
  rcases hy with rfl | rfl | rfl | rfl | rfl | rfl | rfl | rfl <;> exact add32_bd _ _

def ivL : List Int := [0x6a09e667, 0xbb67ae85, 0x3c6ef372, 0xa54ff53a, 0x510e527f, 0x9b05688c, 0x1f83d9ab, 0x5be0cd19]

/-- The state behind n blocks. -/
def foldN : Nat → List Int → List Int → List Int
  | 0, s, _ => s
  | n + 1, s, bs => foldN n (mixS s (bs.take 64)) (bs.drop 64)

theorem foldN_st : ∀ (n : Nat) {s : List Int} (bs : List Int), St8 s → St8 (foldN n s bs)
  | 0, _, _, h => h
  | n + 1, _, bs, h => foldN_st n (bs.drop 64) (mixS_st _ h)

theorem foldN_add : ∀ (m n : Nat) (s bs : List Int), foldN (m + n) s bs = foldN n (foldN m s bs) (bs.drop (64 * m))
  | 0, n, s, bs => by simp [foldN]
  | m + 1, n, s, bs => by
    rw [show m + 1 + n = (m + n) + 1 by omega, foldN, foldN_add m n, foldN, List.drop_drop, show 64 + 64 * m = 64 * (m + 1) by omega]

theorem foldN_next (n : Nat) (s bs : List Int) : foldN (n + 1) s bs = mixS (foldN n s bs) ((bs.drop (64 * n)).take 64) := foldN_add n 1 s bs

/-- What stands behind the blocks doesn't count. -/
theorem foldN_app : ∀ (n : Nat) (s x y : List Int), 64 * n ≤ x.length → foldN n s (x ++ y) = foldN n s x
  | 0, _, _, _, _ => rfl
  | n + 1, s, x, y, h => by
    rw [foldN, foldN, List.take_append_of_le_length (by omega), List.drop_append_of_le_length (by omega), foldN_app n _ _ _ (by simp; omega)]
end Go.Proofs.YtpnodocjpedcmaaDoor.Sha

namespace Go.Proofs.YtpnodocjpedcmaaDoor.Sha
open Go.ChangeShapes Go.WideShapes Go.ChangeAt Go.RowKit Go.Proofs.YtpnodocjpedcmaaDoor.Kit

theorem iv_st : St8 ivL := ⟨rfl, (by decide : ∀ x ∈ ivL, 0 ≤ x ∧ x ≤ 4294967295)⟩
/-- The state behind the whole blocks of bytes. -/
def stateL (xs : List Int) : List Int := foldN (xs.length / 64) ivL xs
theorem stateL_st (xs : List Int) : St8 (stateL xs) := foldN_st _ _ iv_st
theorem stateL_nil : stateL [] = ivL := rfl
theorem stateL_part {ys zs : List Int} (h : ys.length % 64 = 0) (hz : zs.length < 64) : stateL (ys ++ zs) = stateL ys := by
  unfold stateL
  rw [List.length_append, show (ys.length + zs.length) / 64 = ys.length / 64 by omega, foldN_app _ _ _ _ (by omega)]
theorem stateL_block {ys zs : List Int} (h : ys.length % 64 = 0) (hz : zs.length = 64) : stateL (ys ++ zs) = mixS (stateL ys) zs := by
  unfold stateL
  rw [List.length_append, show (ys.length + zs.length) / 64 = ys.length / 64 + 1 by omega, foldN_next, foldN_app _ _ _ _ (by omega)]
  congr 1
  rw [show 64 * (ys.length / 64) = ys.length by omega, List.drop_append_of_le_length (Nat.le_refl _), List.drop_length, List.nil_append, List.take_of_length_le (by omega)]

theorem stateL_whole (xs : List Int) : stateL (xs.take (64 * (xs.length / 64))) = stateL xs := by
  have h := stateL_part (ys := xs.take (64 * (xs.length / 64))) (zs := xs.drop (64 * (xs.length / 64))) (by simp; omega) (by simp; omega)
  rw [List.take_append_drop] at h
  exact h.symm
theorem state_same {xs bs : List Int} (h : xs.length % 64 + bs.length < 64) : stateL (xs ++ bs) = stateL xs := by
  have h1 := stateL_part (ys := xs.take (64 * (xs.length / 64))) (zs := xs.drop (64 * (xs.length / 64)) ++ bs) (by simp; omega) (by simp; omega)
  rw [← List.append_assoc, List.take_append_drop, stateL_whole] at h1
  exact h1
theorem state_full {xs zs : List Int} (h : xs.length % 64 + zs.length = 64) : stateL (xs ++ zs) = mixS (stateL xs) (xs.drop (64 * (xs.length / 64)) ++ zs) := by
  have h1 := stateL_block (ys := xs.take (64 * (xs.length / 64))) (zs := xs.drop (64 * (xs.length / 64)) ++ zs) (by simp; omega) (by simp; omega)
  rw [← List.append_assoc, List.take_append_drop, stateL_whole] at h1
  exact h1
theorem rest_next {xs bs r : List Int} (h2 : r.length = 64) (h3 : r.take (xs.length % 64) = xs.drop (64 * (xs.length / 64))) (hs : xs.length % 64 + bs.length < 64) :
    (r.take (xs.length % 64) ++ (bs ++ r.drop (xs.length % 64 + bs.length))).take ((xs ++ bs).length % 64) = (xs ++ bs).drop (64 * ((xs ++ bs).length / 64)) := by
  rw [h3, List.length_append, show (xs.length + bs.length) % 64 = xs.length % 64 + bs.length by omega, show 64 * ((xs.length + bs.length) / 64) = 64 * (xs.length / 64) by omega,
    ← List.append_assoc, List.take_append_of_le_length (by simp; omega), List.take_of_length_le (by simp; omega), List.drop_append_of_le_length (by omega)]
theorem rest_full {xs zs r : List Int} (h3 : r.take (xs.length % 64) = xs.drop (64 * (xs.length / 64))) (h2 : r.length = 64) (hs : xs.length % 64 + zs.length = 64) :
    r.take (xs.length % 64) ++ (zs ++ r.drop (xs.length % 64 + zs.length)) = xs.drop (64 * (xs.length / 64)) ++ zs := by
  rw [h3, hs, List.drop_of_length_le (l := r) (by omega), List.append_nil]
/-- What is copied into an empty rest. -/
theorem rest_last {ys zs r : List Int} (h : ys.length % 64 = 0) (hz : zs.length < 64) : (zs ++ r).take ((ys ++ zs).length % 64) = (ys ++ zs).drop (64 * ((ys ++ zs).length / 64)) := by
  rw [List.length_append, show (ys.length + zs.length) % 64 = zs.length by omega, show 64 * ((ys.length + zs.length) / 64) = ys.length by omega, List.take_left, List.drop_left]

def tailZ (n : Nat) : Nat := (119 - n % 64) % 64
theorem tailZ_lt (n : Nat) : tailZ n < 64 := by unfold tailZ; omega
theorem tailZ_mod (n : Nat) : (n + (9 + tailZ n)) % 64 = 0 := by unfold tailZ; omega
def lenB (n : Nat) : List Int := (List.range 8).map fun i => ((8 * n / 2 ^ (56 - 8 * i) % 256 : Nat) : Int)
theorem lenB_length (n : Nat) : (lenB n).length = 8 := by simp [lenB]
/-- What stands behind n bytes. -/
def endB (n : Nat) : List Int := 128 :: (List.replicate (tailZ n) 0 ++ lenB n)
theorem endB_length (n : Nat) : (endB n).length = 9 + tailZ n := by simp [endB, lenB_length]; omega
theorem lenB_octets (n : Nat) : Octets (lenB n) := by
  intro x hx
  obtain ⟨i, _, rfl⟩ := List.mem_map.1 hx
  omega
theorem endB_octets (n : Nat) : Octets (endB n) := by
  intro x hx
  rcases List.mem_cons.1 hx with rfl | hx
  · omega
  · rcases List.mem_append.1 hx with hx | hx
    · obtain ⟨_, rfl⟩ := List.mem_replicate.1 hx; omega
    · exact lenB_octets n x hx
def padL (xs : List Int) : List Int := xs ++ endB xs.length
theorem padL_mod (xs : List Int) : (padL xs).length % 64 = 0 := by
  unfold padL
  rw [List.length_append, endB_length]
  exact tailZ_mod _
/-- The bytes of a state. -/
def digL (s : List Int) : List Int := (List.range 32).map fun i => s.getD (i / 4) 0 / 2 ^ (24 - 8 * (i % 4)) % 256
theorem digL_length (s : List Int) : (digL s).length = 32 := by simp [digL]
theorem digL_octets (s : List Int) : Octets (digL s) := by
  intro x hx
  obtain ⟨i, _, rfl⟩ := List.mem_map.1 hx
  omega
/-- The sum of bytes. -/
def sumL (xs : List Int) : List Int := digL (stateL (padL xs))
theorem sumL_length (xs : List Int) : (sumL xs).length = 32 := digL_length _
theorem sumL_octets (xs : List Int) : Octets (sumL xs) := digL_octets _

/-! ### What a hash's block has -/

def hcells (st rest : List Int) (n : Int) : List Value := st.map (.int .u32) ++ (rest.map (.int .u8) ++ [.int .u64 n])
theorem hcells_length {st rest : List Int} (n : Int) (hs : st.length = 8) (hr : rest.length = 64) : (hcells st rest n).length = 73 := by simp [hcells, hs, hr]

/-- Block g is a hash of this state, these bytes that wait, so many taken. -/
def HB (w : World) (g : Nat) (st rest : List Int) (n : Int) : Prop := Block w g 154 (hcells st rest n).toArray

section
variable {w w' : World} {g : Nat} {st rest : List Int} {n : Int}
theorem HB.lt (h : HB w g st rest n) : g < w.heap.size := Block.lt h
theorem HB.frozen (h : HB w g st rest n) (i : Nat) : w.frozen? ⟨g, i, none⟩ = false := Block.frozen h i
theorem HB.out {S : Nat → Prop} (h : HB w g st rest n) (ho : TurnsIn S w w') (hg : ¬ S g) : HB w' g st rest n := Block.out h ho hg
theorem HB.below {B : Nat} (h : HB w g st rest n) (hb : Below B w w') (hg : g < B) : HB w' g st rest n := Block.below h hb hg
theorem HB.stCell (h : HB w g st rest n) (hs : st.length = 8) {i : Nat} (hi : i < 8) : w.cell? ⟨g, i, none⟩ = some (.int .u32 (st[i]?.getD 0)) := by
  rw [Block.cell h i]
  simp only [List.getElem?_toArray, hcells]
  rw [List.getElem?_append_left (by simp; omega)]
  simp [List.getElem?_eq_getElem (show i < st.length by omega)]
theorem HB.restCell (h : HB w g st rest n) (hs : st.length = 8) (hr : rest.length = 64) {i : Nat} (hi : i < 64) : w.cell? ⟨g, 8 + i, none⟩ = some (.int .u8 (rest[i]?.getD 0)) := by
  rw [Block.cell h (8 + i)]
  simp only [List.getElem?_toArray, hcells]
  rw [List.getElem?_append_right (by simp; omega), List.getElem?_append_left (by simp; omega)]
  simp [hs, List.getElem?_eq_getElem (show i < rest.length by omega)]
theorem HB.taken (h : HB w g st rest n) (hs : st.length = 8) (hr : rest.length = 64) : w.cell? ⟨g, 72, none⟩ = some (.int .u64 n) := by
  rw [Block.cell h 72]
  simp only [List.getElem?_toArray, hcells]
  rw [List.getElem?_append_right (by simp; omega), List.getElem?_append_right (by simp; omega)]
  simp [hs, hr]
theorem HB.setTaken (h : HB w g st rest n) (hs : st.length = 8) (hr : rest.length = 64) (m : Int) : HB (w.setCell ⟨g, 72, none⟩ (.int .u64 m)) g st rest m := by
  have := Block.set_ h 72 (.int .u64 m)
  unfold HB
  rw [List.setIfInBounds_toArray] at this
  have e : (hcells st rest n).set 72 (.int .u64 m) = hcells st rest m := by
    unfold hcells
    rw [List.set_append, if_neg (by simp; omega), List.set_append, if_neg (by simp; omega)]
    simp [hs, hr]
  rwa [e] at this
theorem HB.range (h : HB w g st rest n) : w.rangeAt g 0 (hcells st rest n) := by
  have := World.rangeAt_of_block h 0 (hcells st rest n).length
  simpa using this
theorem hcells_one (st rest : List Int) (n : Int) : ∀ v ∈ hcells st rest n, v.oneCell' = true := by
  intro v hv
  simp only [hcells, List.mem_append, List.mem_map, List.mem_singleton] at hv
  rcases hv with ⟨x, _, rfl⟩ | ⟨x, _, rfl⟩ | rfl <;> rfl
theorem HB.restHolds (h : HB w g st rest n) (hs : st.length = 8) (hr : rest.length = 64) : Holds w w.heap.size .u8 (some ⟨g, 8, none⟩) rest := by
  intro _
  exact ⟨g, 8, rfl, h.lt, fun j hj => by rw [h.restCell hs hr (by omega)]; simp [List.getD]⟩
theorem hcells_splice {zs : List Int} {q : Nat} (hs : st.length = 8) (hr : rest.length = 64) (hq : q + zs.length ≤ 64) :
    (hcells st rest n).take (8 + q) ++ (zs.map (Value.int .u8) ++ (hcells st rest n).drop (8 + q + zs.length)) = hcells st (rest.take q ++ (zs ++ rest.drop (q + zs.length))) n := by
  unfold hcells
  rw [List.take_append, List.take_of_length_le (by simp; omega), List.take_append_of_le_length (by simp; omega), List.drop_append, List.drop_of_length_le (by simp; omega), List.nil_append, List.drop_append_of_le_length (by simp; omega)]
  simp only [List.length_map, hs, show 8 + q - 8 = q by omega, show 8 + q + zs.length - 8 = q + zs.length by omega, List.map_append, List.map_take, List.map_drop, List.append_assoc]
theorem HB.there (h : HB w g st rest n) (m : Nat) (hm : m ≤ (hcells st rest n).length) : w.there g 0 m := fun j hj => by
  rw [Nat.zero_add, Block.cell h j]
  exact ⟨by simp; omega, h.frozen j⟩
theorem HB.setAll (h : HB w g st rest n) (hs : st.length = 8) (hr : rest.length = 64) {st2 rest2 : List Int} (n2 : Int) (h2 : st2.length = 8) (h3 : rest2.length = 64) : HB (w.setCells g 0 (hcells st2 rest2 n2)) g st2 rest2 n2 := by
  have := setCells_block (hcells st2 rest2 n2) 0 w _ h (by simp [hcells, h2, h3]; omega)
  unfold HB
  have e : (hcells st rest n).take 0 ++ (hcells st2 rest2 n2 ++ (hcells st rest n).drop (0 + (hcells st2 rest2 n2).length)) = hcells st2 rest2 n2 := by
    rw [List.drop_of_length_le (by rw [hcells_length _ hs hr, hcells_length _ h2 h3]; omega)]
    simp
  simp only [] at this
  rwa [e] at this
/-- A whole hash is stored over another. -/
theorem wpList_store_hash {P : Program} {ops : Array Oper} {more : List Oper} {o : Oper} {a : Act} {Q : Exit → Act → World → Prop} (hgd : o.guard = none) (ty : TypeId) (x y : Operand) (ho : o.op = .store ty x y)
    (h : HB w g st rest n) (hs : st.length = 8) (hr : rest.length = 64) {st2 rest2 : List Int} {n2 : Int} (h2 : st2.length = 8) (h3 : rest2.length = 64) (hx : a.eval x = .pointer (some ⟨g, 0, none⟩)) (hy : a.eval y = .agg (hcells st2 rest2 n2).toArray)
    (hi : (P.info? ty).map (·.size) = some 73) (hK : ∀ w', HB w' g st2 rest2 n2 → w.grownBy w' (some g) → wpList P ops Q more (a.put o.dst undef) w') : wpList P ops Q (o :: more) a w := by
  refine wpList_store_mid hgd ty x y ho g 0 (hcells st2 rest2 n2).toArray hx hy (h.there _ (by simp [hcells, h2, h3, hs, hr])) (by rw [hi]; simp [hcells, h2, h3]) (all_oneCell_toArray (hcells_one st2 rest2 n2)) ?_
  exact hK _ (h.setAll hs hr n2 h2 h3) (setCells_grown g _ 0 w)
theorem HB.setState (h : HB w g st rest n) (hs : st.length = 8) {s2 : List Int} (h2 : s2.length = 8) : HB (w.setCells g 0 (s2.map (.int .u32))) g s2 rest n := by
  have := setCells_block (s2.map (Value.int .u32)) 0 w _ h (by simp [hcells]; omega)
  unfold HB
  have e : (hcells st rest n).take 0 ++ (s2.map (Value.int .u32) ++ (hcells st rest n).drop (0 + (s2.map (Value.int .u32)).length)) = hcells s2 rest n := by
    unfold hcells
    simp [h2, hs]
  simp only [] at this
  rwa [e] at this
end
end Go.Proofs.YtpnodocjpedcmaaDoor.Sha

namespace Go.Proofs.YtpnodocjpedcmaaDoor.Kit
open Go.ChangeShapes Go.WideShapes Go.ChangeAt Go.RowKit

/-- v is a slice of the call's own, from block B on (or nil), and holds the values us. -/
def OwnV (w : World) (B : Nat) (e : TypeId) (v : Value) (us : List Value) : Prop := w.ownsRow B e 1 v us.length us
/-- t is the type of slices over e, of one cell. -/
def ValElem (P : Program) (t e : TypeId) (z : Value) (bytes : Nat) : Prop :=
  P.underlying t = some (.slice e) ∧ (P.info? e).map (fun i => (i.zero, i.size, i.bytes)) = some (some z, 1, bytes) ∧ z.cells.size = 1 ∧ bytes ≤ 64

section
variable {P : Program} {w w' : World} {B : Nat} {e : TypeId} {v : Value} {us : List Value}

theorem OwnV.nil (w : World) (B : Nat) (e : TypeId) : OwnV w B e (.slice none 0 0) [] := World.ownsRow_nil w B e 1
theorem OwnV.empty (w : World) (e : TypeId) (hB : B ≤ w.heap.size) : OwnV (w.alloc (.cells #[] e)) B e (.slice (some ⟨w.heap.size, 0, none⟩) 0 0) [] :=
  World.ownsRow_lit (size := 1) w #[] 0 hB (Nat.zero_le _) rfl
theorem OwnV.one (w : World) (e : TypeId) (hB : B ≤ w.heap.size) (u : Value) : OwnV (w.alloc (.cells #[u] e)) B e (.slice (some ⟨w.heap.size, 0, none⟩) 1 1) [u] :=
  World.ownsRow_lit (size := 1) w #[u] 1 hB (by decide) rfl
theorem OwnV.lt (h : OwnV w B e v us) : ∀ g, v.ownBlock = some g → B ≤ g ∧ g < w.heap.size := World.ownsRow.lt h
theorem OwnV.alloc (h : OwnV w B e v us) (o : Obj) : OwnV (w.alloc o) B e v us := World.ownsRow.alloc h o
theorem OwnV.drewN (h : OwnV w B e v us) (n : Nat) : OwnV (w.drewN n) B e v us := h
theorem OwnV.mono {B' : Nat} (h : OwnV w B e v us) (hb : B' ≤ B) : OwnV w B' e v us := by
  rcases h.2 with ⟨rfl, h0⟩ | ⟨g, cap, cur, rfl, hbg, hrest⟩
  · exact ⟨h.1, .inl ⟨rfl, h0⟩⟩
  · exact ⟨h.1, .inr ⟨g, cap, cur, rfl, by omega, hrest⟩⟩
theorem OwnV.kept {row : Option Nat} (h : OwnV w B e v us) (hg : w.grownBy w' row) (hne : v.ownBlock = none ∨ v.ownBlock ≠ row) : OwnV w' B e v us := World.ownsRow.kept h hg hne
theorem OwnV.below (h : OwnV w B e v us) (hb : Below w.heap.size w w') : OwnV w' B e v us := by
  refine h.kept (row := none) ⟨hb.os, hb.tape, hb.output, hb.size, fun g hg _ => hb.block g hg⟩ ?_
  cases hv : v.ownBlock with
  | none => exact .inl rfl
  | some g => exact .inr (by simp)
theorem OwnV.opened (h : OwnV w B e v us) : ∃ (A : Option Addr) (cap : Nat), v = .slice A us.length cap ∧ us.length ≤ cap ∧ cap ≤ maxLen := by
  rcases h.2 with ⟨rfl, h0⟩ | ⟨g, cap, cur, rfl, hb, hg, hnc, hcm, hcs, htake⟩
  · exact ⟨none, 0, by rw [h0], by omega, Nat.zero_le _⟩
  · exact ⟨some ⟨g, 0, none⟩, cap, rfl, hnc, hcm⟩
theorem OwnV.cellAt {A : Option Addr} {n cap : Nat} (h : OwnV w B e (.slice A n cap) us) {i : Nat} (hi : i < us.length) : ∃ g, A = some ⟨g, 0, none⟩ ∧ g < w.heap.size ∧ w.cell? ⟨g, i, none⟩ = some us[i] := by
  rcases h.2 with ⟨h1, h0⟩ | ⟨g, cap, cur, h1, hb, hg, hnc, hcm, hcs, htake⟩
  · omega
  · injection h1 with h1 h2 h3
    subst h1 h2 h3
    refine ⟨g, rfl, (Array.getElem?_eq_some_iff.1 hg).1, ?_⟩
    rw [World.ownsRow.cellAt h i (by omega)]
    exact List.getElem?_eq_getElem hi

/-- Rows of other types of cells never share its block. -/
theorem OwnV.ne_block {g : Nat} {t : TypeId} {cs : Array Value} (h : OwnV w B e v us) (hg : Block w g t cs) (hne : t ≠ e) : v.ownBlock ≠ some g := by
  rcases h.2 with ⟨rfl, _⟩ | ⟨g', cap, cur, rfl, _, hh, _⟩
  · simp [Value.ownBlock]
  · intro he
    obtain rfl : g' = g := by simpa [Value.ownBlock] using he
    unfold Block at hg
    rw [hh] at hg
    injection hg with hg
    injection hg with _ ht
    exact hne ht.symm

/-- append(v, u): u lies alone in the newest block. -/
theorem wpList_append_val {ops : Array Oper} {rest : List Oper} {o : Oper} {a : Act} {Q : Exit → Act → World → Prop} (hgd : o.guard = none) (s x : Operand) (t : TypeId)
    (ho : o.op = .call { callee := .builtin .append, args := #[s, x], argTypes := #[t, t] }) {z : Value} {bytes : Nat} (he : ValElem P t e z bytes)
    (hown : OwnV w B e v us) (hs : a.eval s = v) {u : Value} {c : Nat} {e2 : TypeId} (hx : a.eval x = .slice (some ⟨w.heap.size, 0, none⟩) 1 c) (hu : u.oneCell' = true) (hsz : us.length + 1 ≤ 1099511627776) (hbase : B ≤ w.heap.size)
    (h : ∀ v' w', OwnV w' B e v' (us ++ [u]) → (w.alloc (.cells #[u] e2)).grownBy w' v.ownBlock → Below B w w' → wpList P ops Q rest (a.put o.dst v') w') :
    wpList P ops Q (o :: rest) a (w.alloc (.cells #[u] e2)) := by
  obtain ⟨ht, hinfo, hz1, hb8⟩ := he
  obtain ⟨i, hi, hz, hsi, hby⟩ := info_parts hinfo
  refine wpList_plain hgd fun K hK => ?_
  have hmul : (us.length + 1) * bytes ≤ (us.length + 1) * 64 := Nat.mul_le_mul_left _ hb8
  obtain ⟨v', w', hrun, h2, h3, _, _⟩ := run_append_own_at (P := P) (w.alloc (.cells #[u] e2)) B t o.type e i z 1 bytes ht hi hz hsi hby hz1 (by omega) v us.length us (hown.alloc _)
    ⟨w.heap.size, 0, none⟩ 1 c [u] rfl (by
      intro j y hj
      have hj0 : j = 0 := by
        rcases j with _ | j
        · rfl
        · simp at hj
      subst hj0
      obtain rfl : u = y := by simpa using hj
      rw [add_plain]
      exact cell_of_row (w.alloc (.cells #[u] e2)) w.heap.size 0 #[u] e2 (0, 0) (heap_alloc_new w _)) (by intro y hy; simp at hy; subst hy; exact hu) (by unfold maxLen; omega) (by omega) (by simp; omega)
  have h2 : OwnV w' B e v' (us ++ [u]) := by unfold OwnV; rw [List.length_append, List.length_singleton]; exact h2
  unfold Oper.wp
  simp only [execOp, ho, resolve, invoke, builtin, Sem.run_bind, Sem.run_pure, Result.andThen_ok, List.map_toArray, List.map_cons, List.map_nil, hs, hx, hrun]
  exact hK _ _ (h v' w' h2 h3 (((Below.refl B w).alloc hbase _).trans (below_of_grown h3 (by simp; omega) fun g hg => (hown.lt g hg).1)))
end

/-- A row of bytes that lies whole in a block of another type than e. -/
def RwArr (w : World) (e : TypeId) (r : Rw) : Prop := ∃ (g : Nat) (t : TypeId), t ≠ e ∧ r.A = some ⟨g, 0, none⟩ ∧ r.cap = r.zs.length ∧ r.zs.length ≤ 100000 ∧ Octets r.zs ∧ Arr w g t .u8 r.zs
section
variable {w w' : World} {B : Nat} {e : TypeId} {v : Value} {rs : List Rw} {r : Rw}
theorem RwArr.ok (h : RwArr w e r) : RwOk w w.heap.size r := by
  obtain ⟨g, t, _, hA, hc, hl, ho, ha⟩ := h
  refine ⟨by omega, by unfold maxLen; omega, ho, ?_⟩
  rw [hA]
  exact ha.holds_all
theorem RwArr.below (h : RwArr w e r) (hb : Below w.heap.size w w') : RwArr w' e r := by
  obtain ⟨g, t, h0, hA, hc, hl, ho, ha⟩ := h
  exact ⟨g, t, h0, hA, hc, hl, ho, Block.below ha hb (Block.lt ha)⟩
theorem RwArr.grown {us : List Value} (h : RwArr w e r) (hown : OwnV w B e v us) (hg : w.grownBy w' v.ownBlock) : RwArr w' e r := by
  obtain ⟨g, t, h0, hA, hc, hl, ho, ha⟩ := h
  exact ⟨g, t, h0, hA, hc, hl, ho, Block.grown ha hg (hown.ne_block ha h0)⟩
theorem RwArr.mk {g : Nat} {t : TypeId} {xs : List Int} (ha : Arr w g t .u8 xs) (h0 : t ≠ e) (ho : Octets xs) (hl : xs.length ≤ 100000) : RwArr w e ⟨some ⟨g, 0, none⟩, xs.length, xs⟩ :=
  ⟨g, t, h0, rfl, rfl, hl, ho, ha⟩
theorem OwnV.rows {A : Option Addr} {n cap : Nat} (h : OwnV w B e (.slice A n cap) (rs.map Rw.val)) (hr : ∀ r ∈ rs, RwArr w e r) : HoldsW w w.heap.size A rs := by
  intro hx
  obtain ⟨g, rfl, hlt, _⟩ := h.cellAt (i := 0) (by simpa using hx)
  refine ⟨g, 0, rfl, hlt, fun i r hi => ?_⟩
  have hok := (hr r (List.mem_of_getElem? hi)).ok
  refine ⟨_, ⟨rfl, hok⟩, rfl, fun j u hj => ?_⟩
  have hj0 : j = 0 := by
    rcases j with _ | j
    · rfl
    · simp at hj
  subst hj0
  obtain ⟨hil, hir⟩ := List.getElem?_eq_some_iff.1 hi
  obtain ⟨g2, e2, _, hc⟩ := h.cellAt (i := i) (by simpa using hil)
  injection e2 with e2
  injection e2 with e2
  subst e2
  rw [Nat.zero_add, Nat.mul_one, Nat.add_zero, hc]
  have hu : u = r.val := by simpa [Rw.val] using hj.symm
  subst hu
  rw [List.getElem_map, hir]
end
end Go.Proofs.YtpnodocjpedcmaaDoor.Kit

namespace Go.Proofs.YtpnodocjpedcmaaDoor.Oct
open Go.RowKit Go.Proofs.YtpnodocjpedcmaaDoor.Kit

def val (xs : List Int) : Int := xs.foldl (fun x c => x * 256 + c) 0

theorem val_snoc (l : List Int) (a : Int) : val (l ++ [a]) = val l * 256 + a := by simp [val]

theorem take_snoc (xs : List Int) (k : Nat) (h : k < xs.length) : xs.take (k + 1) = xs.take k ++ [xs[k]?.getD 0] := by
  rw [List.take_add_one]; simp [h]

theorem val_take (xs : List Int) (k : Nat) (h : k < xs.length) : val (xs.take (k + 1)) = val (xs.take k) * 256 + xs[k]?.getD 0 := by
  rw [take_snoc xs k h, val_snoc]

theorem val_bd (xs : List Int) (ho : Octets xs) : ∀ k, k ≤ xs.length → 0 ≤ val (xs.take k) ∧ val (xs.take k) < (256 : Int) ^ k
  | 0, _ => by simp [val]
  | k + 1, h => by
    have h1 := val_bd xs ho k (by omega)
    have h2 := ho.at_ k
    rw [val_take xs k (by omega), Int.pow_succ]
    omega

theorem pow_up (k : Nat) : ∀ d, 0 < (256 : Int) ^ k ∧ (256 : Int) ^ k ≤ 256 ^ (k + d)
  | 0 => by
    refine ⟨?_, Int.le_refl _⟩
    induction k with
    | zero => decide
    | succ k ih => rw [Int.pow_succ]; omega
  | d + 1 => by
    have := pow_up k d
    rw [← Nat.add_assoc, Int.pow_succ]
    omega

theorem val_lt (xs : List Int) (ho : Octets xs) (k : Nat) (hk : k ≤ xs.length) (h : k ≤ 7) : 0 ≤ val (xs.take k) ∧ val (xs.take k) < 72057594037927936 := by
  have h1 := val_bd xs ho k hk
  have h2 : (256 : Int) ^ k ≤ 256 ^ 7 := by
    have := (pow_up k (7 - k)).2
    rwa [show k + (7 - k) = 7 from by omega] at this
  have h3 : (256 : Int) ^ 7 = 72057594037927936 := by decide
  omega

theorem val_lt8 (xs : List Int) (ho : Octets xs) (k : Nat) (hk : k ≤ xs.length) (h : k ≤ 8) : 0 ≤ val (xs.take k) ∧ val (xs.take k) < 18446744073709551616 := by
  have h1 := val_bd xs ho k hk
  have h2 : (256 : Int) ^ k ≤ 256 ^ 8 := by
    have := (pow_up k (8 - k)).2
    rwa [show k + (8 - k) = 8 from by omega] at this
  have h3 : (256 : Int) ^ 8 = 18446744073709551616 := by decide
  omega

/-- x<<8 | c, in 64 bits. -/
theorem shl8_or (x c : Int) (hx : 0 ≤ x ∧ x < 72057594037927936) (hc : 0 ≤ c ∧ c ≤ 255) :
    bits BinOp.or IntKind.u64 (IntKind.u64.wrap (x * 256)) (IntKind.u64.wrap c) = x * 256 + c := by
  obtain ⟨X, rfl⟩ := Int.eq_ofNat_of_zero_le hx.1
  obtain ⟨C, rfl⟩ := Int.eq_ofNat_of_zero_le hc.1
  rw [IntWalk.u64_in _ (by omega), IntWalk.u64_in _ (by omega)]
  have h := u64_or_nat (X * 256) C (by omega) (by omega)
  rw [nat_join 8 (X * 256) C (by omega) (by omega)] at h
  simpa using h

/-- Byte i of a number, from the lowest on. -/
def byteAt (x : Int) (i : Nat) : Int := x / (2 : Int) ^ (8 * i) % 256
/-- n bytes of a number, the highest first. -/
def be (n : Nat) (x : Int) : List Int := (List.range n).map fun i => byteAt x (n - 1 - i)

theorem be_length (n : Nat) (x : Int) : (be n x).length = n := by simp [be]
theorem byteAt_bd (x : Int) (i : Nat) : 0 ≤ byteAt x i ∧ byteAt x i ≤ 255 := by unfold byteAt; omega
theorem be_octets (n : Nat) (x : Int) : Octets (be n x) := by
  intro z hz
  obtain ⟨i, _, rfl⟩ := List.mem_map.1 hz
  exact byteAt_bd _ _
theorem be_get (n : Nat) (x : Int) (j : Nat) (h : j < n) : (be n x)[j]?.getD 0 = byteAt x (n - 1 - j) := by simp [be, h]
theorem be_take (n : Nat) (x : Int) (j : Nat) (h : j < n) : (be n x).take (j + 1) = (be n x).take j ++ [byteAt x (n - 1 - j)] := by
  rw [take_snoc _ _ (by rw [be_length]; exact h), be_get n x j h]

theorem be_succ (n : Nat) (x : Int) : be (n + 1) x = be n (x / 256) ++ [x % 256] := by
  unfold be
  rw [List.range_succ, List.map_append]
  congr 1
  · apply List.map_congr_left
    intro i hi
    have hi := List.mem_range.1 hi
    unfold byteAt
    rw [show n + 1 - 1 - i = (n - 1 - i) + 1 by omega, show 8 * (n - 1 - i + 1) = 8 + 8 * (n - 1 - i) by omega, Int.pow_add]
    rw [show (2 : Int) ^ 8 = 256 by decide, Int.ediv_ediv_of_nonneg (by omega)]
  · simp [byteAt]

theorem emod_256_mul (x M : Int) (hM : 0 < M) : x % (256 * M) = 256 * (x / 256 % M) + x % 256 := by
  have h1 := Int.mul_ediv_add_emod (x / 256) M
  have h2 := Int.emod_nonneg (x / 256) (by omega : M ≠ 0)
  have h3 := Int.emod_lt_of_pos (x / 256) hM
  have h4 : x = (256 * (x / 256 % M) + x % 256) + 256 * M * (x / 256 / M) := by
    have : 256 * M * (x / 256 / M) = 256 * (M * (x / 256 / M)) := Int.mul_assoc _ _ _
    rw [this]
    omega
  generalize x / 256 % M = s at *
  generalize x / 256 / M = q at *
  rw [h4, Int.add_mul_emod_self_left, Int.emod_eq_of_lt (by omega) (by omega)]
  omega

theorem val_be : ∀ (n : Nat) (x : Int), val (be n x) = x % (256 : Int) ^ n
  | 0, x => by simp [be, val]
  | n + 1, x => by
    have h256 : (0 : Int) < 256 ^ n := (pow_up n 0).1
    rw [be_succ, val_snoc, val_be n (x / 256), Int.pow_succ, Int.mul_comm ((256 : Int) ^ n) 256, emod_256_mul x _ h256]
    omega

theorem val_be8 (x : Int) (hx : 0 ≤ x ∧ x < 18446744073709551616) : val (be 8 x) = x := by
  rw [val_be 8 x, show (256 : Int) ^ 8 = 18446744073709551616 by decide]
  omega

/-- Digit i of bytes, by w bits each. -/
def dg (xs : List Int) (w i : Nat) : Int := xs[i / (8 / w)]?.getD 0 / (2 : Int) ^ (w * (8 / w - 1 - i % (8 / w))) % (2 : Int) ^ w

theorem i64_and_nat (a b : Nat) (ha : a < 9223372036854775808) (hb : b < 9223372036854775808) : bits .and .i64 (a : Int) (b : Int) = ((a &&& b : Nat) : Int) := by
  have hx : a &&& b < 2 ^ 63 := Nat.and_lt_two_pow a (by omega)
  show IntKind.i64.wrap ((BitVec.ofInt 64 (a : Int) &&& BitVec.ofInt 64 (b : Int)).toNat : Int) = _
  rw [BitVec.toNat_and, ofInt_u64 a (by omega), ofInt_u64 b (by omega)]
  exact IntWalk.i64_in _ (by omega)

theorem div_pow_nat (x d : Nat) : (x : Int) / (2 : Int) ^ d = ((x / 2 ^ d : Nat) : Int) := by
  rw [Int.natCast_ediv, Int.natCast_pow]; rfl

theorem mask1 (x : Int) (d : Nat) (hx : 0 ≤ x ∧ x ≤ 255) : bits .and .i64 (x / 2 ^ d) 1 = x / 2 ^ d % 2 := by
  obtain ⟨X, rfl⟩ := Int.eq_ofNat_of_zero_le hx.1
  have : X / 2 ^ d ≤ X := Nat.div_le_self _ _
  rw [div_pow_nat]
  have h := i64_and_nat (X / 2 ^ d) 1 (by omega) (by omega)
  rw [nat_mask1] at h
  exact h
theorem mask2 (x : Int) (d : Nat) (hx : 0 ≤ x ∧ x ≤ 255) : bits .and .i64 (x / 2 ^ d) 3 = x / 2 ^ d % 4 := by
  obtain ⟨X, rfl⟩ := Int.eq_ofNat_of_zero_le hx.1
  have : X / 2 ^ d ≤ X := Nat.div_le_self _ _
  rw [div_pow_nat]
  have h := i64_and_nat (X / 2 ^ d) 3 (by omega) (by omega)
  rw [nat_mask2] at h
  exact h
theorem mask4 (x : Int) (d : Nat) (hx : 0 ≤ x ∧ x ≤ 255) : bits .and .i64 (x / 2 ^ d) 15 = x / 2 ^ d % 16 := by
  obtain ⟨X, rfl⟩ := Int.eq_ofNat_of_zero_le hx.1
  have : X / 2 ^ d ≤ X := Nat.div_le_self _ _
  rw [div_pow_nat]
  have h := i64_and_nat (X / 2 ^ d) 15 (by omega) (by omega)
  rw [nat_mask4] at h
  exact h
theorem mask8 (x : Int) (hx : 0 ≤ x ∧ x ≤ 255) : bits .and .i64 x 255 = x := by
  obtain ⟨X, rfl⟩ := Int.eq_ofNat_of_zero_le hx.1
  have h := i64_and_nat X 255 (by omega) (by omega)
  rw [nat_mask8, Nat.mod_eq_of_lt (by omega)] at h
  exact h

/-- All digits of bytes, by w bits each. -/
def dgs (xs : List Int) (w : Nat) : List Int := (List.range (xs.length * (8 / w))).map (dg xs w)

theorem dgs_length (xs : List Int) (w : Nat) : (dgs xs w).length = xs.length * (8 / w) := by simp [dgs]

theorem fill_step (ds : List Int) (L j : Nat) (hL : ds.length = L) (hj : j < L) (z : Int) (hz : ds[j]?.getD 0 = z) :
    (ds.take j ++ List.replicate (L - j) 0).set j z = ds.take (j + 1) ++ List.replicate (L - (j + 1)) 0 := by
  rw [take_snoc ds j (by omega), hz, List.set_append_right _ _ (by simp; omega)]
  simp only [List.length_take, Nat.min_eq_left (show j ≤ ds.length by omega), Nat.sub_self, List.append_assoc]
  congr 1
  rw [show L - j = (L - (j + 1)) + 1 by omega, List.replicate_succ]
  rfl

theorem dgs_get (xs : List Int) (w j : Nat) (hj : j < xs.length * (8 / w)) : (dgs xs w)[j]?.getD 0 = dg xs w j := by simp [dgs, hj]

/-- The digits of one byte, and of all. -/
def one (x : Int) (w : Nat) : List Int := (List.range (8 / w)).map fun r => x / (2 : Int) ^ (w * (8 / w - 1 - r)) % (2 : Int) ^ w
def all (xs : List Int) (w : Nat) : List Int := xs.flatMap (one · w)

theorem one_length (x : Int) (w : Nat) : (one x w).length = 8 / w := by simp [one]
theorem all_snoc (xs : List Int) (x : Int) (w : Nat) : all (xs ++ [x]) w = all xs w ++ one x w := by simp [all]

theorem dgs_snoc (xs : List Int) (x : Int) (w : Nat) (hw : 0 < 8 / w) : dgs (xs ++ [x]) w = dgs xs w ++ one x w := by
  unfold dgs one
  rw [List.length_append, List.length_singleton, Nat.add_mul, Nat.one_mul, List.range_add, List.map_append, List.map_map]
  congr 1
  · apply List.map_congr_left
    intro i hi
    have hi := List.mem_range.1 hi
    unfold dg
    rw [List.getElem?_append_left (Nat.div_lt_of_lt_mul (by rw [Nat.mul_comm]; exact hi))]
  · apply List.map_congr_left
    intro r hr
    have hr := List.mem_range.1 hr
    show dg (xs ++ [x]) w (xs.length * (8 / w) + r) = _
    unfold dg
    rw [Nat.mul_comm xs.length, Nat.mul_add_div hw, Nat.div_eq_of_lt hr, Nat.mul_add_mod, Nat.mod_eq_of_lt hr]
    simp

theorem dgs_all (w : Nat) (hw : 0 < 8 / w) (xs : List Int) : dgs xs w = all xs w := by
  have h : ∀ n (xs : List Int), xs.length = n → dgs xs w = all xs w := by
    intro n
    induction n with
    | zero => intro xs h; obtain rfl : xs = [] := List.eq_nil_of_length_eq_zero h; simp [dgs, all]
    | succ n ih =>
      intro xs h
      have hx : xs = xs.take n ++ [xs[n]?.getD 0] := by
        rw [← take_snoc xs n (by omega), List.take_of_length_le (by omega)]
      rw [hx, dgs_snoc _ _ _ hw, all_snoc, ih _ (by simp; omega)]
  exact h _ xs rfl

/-- The bits of x's next digit that were gone through, behind k bits. -/
def part (x : Int) (w k : Nat) : Int := x / (2 : Int) ^ (8 - k) % (2 : Int) ^ (k % w)

theorem part_in (x : Int) (w k : Nat) (hw : w = 1 ∨ w = 2 ∨ w = 4 ∨ w = 8) (hk : k < 8) (h : k % w ≠ w - 1) (hx : 0 ≤ x ∧ x ≤ 255) :
    part x w (k + 1) = 2 * part x w k + x / (2 : Int) ^ (7 - k) % 2 ∧ (k + 1) / w = k / w := by
  rcases (by omega : k = 0 ∨ k = 1 ∨ k = 2 ∨ k = 3 ∨ k = 4 ∨ k = 5 ∨ k = 6 ∨ k = 7) with rfl | rfl | rfl | rfl | rfl | rfl | rfl | rfl <;>
    rcases hw with rfl | rfl | rfl | rfl <;> (first | (exfalso; omega) | (simp [part]; omega) | simp [part])

theorem part_end (x : Int) (w k : Nat) (hw : w = 1 ∨ w = 2 ∨ w = 4 ∨ w = 8) (hk : k < 8) (h : k % w = w - 1) (hx : 0 ≤ x ∧ x ≤ 255) :
    part x w (k + 1) = 0 ∧ (one x w).take ((k + 1) / w) = (one x w).take (k / w) ++ [2 * part x w k + x / (2 : Int) ^ (7 - k) % 2] := by
  rcases (by omega : k = 0 ∨ k = 1 ∨ k = 2 ∨ k = 3 ∨ k = 4 ∨ k = 5 ∨ k = 6 ∨ k = 7) with rfl | rfl | rfl | rfl | rfl | rfl | rfl | rfl <;>
    rcases hw with rfl | rfl | rfl | rfl <;> (first | (exfalso; omega) | (simp [part, one, List.range_succ]; omega) | (simp [part, one, List.range_succ]))

theorem part_bd (x : Int) (w k : Nat) (hw : w = 1 ∨ w = 2 ∨ w = 4 ∨ w = 8) : 0 ≤ part x w k ∧ part x w k ≤ 127 := by
  have hm : k % w < w ∧ w ≤ 8 := by
    rcases hw with rfl | rfl | rfl | rfl <;> omega
  unfold part
  rcases (by omega : k % w = 0 ∨ k % w = 1 ∨ k % w = 2 ∨ k % w = 3 ∨ k % w = 4 ∨ k % w = 5 ∨ k % w = 6 ∨ k % w = 7) with h | h | h | h | h | h | h | h <;> rw [h] <;> simp <;> omega

theorem div_bd (x : Int) (d : Nat) (hx : 0 ≤ x ∧ x ≤ 255) : 0 ≤ x / (2 : Int) ^ d ∧ x / (2 : Int) ^ d ≤ 255 := by
  obtain ⟨X, rfl⟩ := Int.eq_ofNat_of_zero_le hx.1
  have : X / 2 ^ d ≤ X := Nat.div_le_self _ _
  rw [div_pow_nat]
  generalize X / 2 ^ d = q at *
  omega

/-- The sum of what each digit lacks to the most m. -/
def lack (zs : List Int) (m : Int) : Int := zs.foldl (fun s z => s + (m - z)) 0
theorem lack_snoc (l : List Int) (m z : Int) : lack (l ++ [z]) m = lack l m + (m - z) := by simp [lack]
theorem lack_take (zs : List Int) (m : Int) (k : Nat) (h : k < zs.length) : lack (zs.take (k + 1)) m = lack (zs.take k) m + (m - zs[k]?.getD 0) := by
  rw [take_snoc zs k h, lack_snoc]
theorem lack_bd (zs : List Int) (m : Int) (h0 : 0 ≤ m ∧ m ≤ 255) (hz : ∀ z ∈ zs, 0 ≤ z ∧ z ≤ m) : ∀ k, k ≤ zs.length → 0 ≤ lack (zs.take k) m ∧ lack (zs.take k) m ≤ 255 * k
  | 0, _ => by simp [lack]
  | k + 1, hk => by
    have h1 := lack_bd zs m h0 hz k (by omega)
    have h2 := hz (zs[k]?.getD 0) (by rw [List.getElem?_eq_getElem (by omega)]; exact List.getElem_mem _)
    rw [lack_take zs m k (by omega)]
    omega

theorem dg_bd (xs : List Int) (w i : Nat) (hw : w = 1 ∨ w = 2 ∨ w = 4 ∨ w = 8) : 0 ≤ dg xs w i ∧ dg xs w i ≤ (2 : Int) ^ w - 1 := by
  unfold dg
  rcases hw with rfl | rfl | rfl | rfl
  · show _ ∧ _ ≤ (2 : Int) ^ 1 - 1; rw [show (2 : Int) ^ 1 = 2 by decide]; omega
  · rw [show (2 : Int) ^ 2 = 4 by decide]; omega
  · rw [show (2 : Int) ^ 4 = 16 by decide]; omega
  · rw [show (2 : Int) ^ 8 = 256 by decide]; omega

theorem dgs_bd (xs : List Int) (w : Nat) (hw : w = 1 ∨ w = 2 ∨ w = 4 ∨ w = 8) : ∀ z ∈ dgs xs w, 0 ≤ z ∧ z ≤ (2 : Int) ^ w - 1 := by
  intro z hz
  obtain ⟨i, _, rfl⟩ := List.mem_map.1 hz
  exact dg_bd xs w i hw

theorem w16_add (L d : Int) : IntKind.u16.wrap (L % 65536 + d) = (L + d) % 65536 := by rw [IntKind.wrap_u16]; omega
theorem w16_mul (L d : Int) : IntKind.u16.wrap (L % 65536 * d) = L * d % 65536 := by rw [IntKind.wrap_u16, Int.mul_emod, Int.emod_emod, ← Int.mul_emod]
end Go.Proofs.YtpnodocjpedcmaaDoor.Oct

namespace Go.Proofs.YtpnodocjpedcmaaDoor.Oct
open Go.ChangeShapes Go.WideShapes Go.ChangeAt Go.RowKit Go.Proofs.YtpnodocjpedcmaaDoor.Kit

theorem get_bad (A : Option Addr) (n c : Nat) (at_ m : Int) (w : World) (hm : m < 1 ∨ 8 < m) :
    Calls Tryd.prog 79 #[.slice A n c, .int .i64 at_, .int .i64 m] w fun e w' => e = .returned (.tuple #[.int .u64 0, .int .i64 1]) ∧ w = w' := by
  rcases hm with hm | hm
  · go_enter Tryd.func79, Tryd.ntmps79
    go_wp2
    go_ret2
    exact ⟨rfl, rfl⟩
  · have hm' : ¬ m < 1 := by omega
    go_enter Tryd.func79, Tryd.ntmps79
    go_wp2
    go_ret2
    exact ⟨rfl, rfl⟩

theorem get_far (A : Option Addr) (n c : Nat) (at_ m : Int) (w : World) (hn : n ≤ 1000000) (hm : 1 ≤ m ∧ m ≤ 8) (h : at_ < 0 ∨ (n : Int) - m < at_) :
    Calls Tryd.prog 79 #[.slice A n c, .int .i64 at_, .int .i64 m] w fun e w' => e = .returned (.tuple #[.int .u64 0, .int .i64 5]) ∧ w = w' := by
  have h1 : ¬ m < 1 := by omega
  have h2 : ¬ 8 < m := by omega
  rcases h with h | h
  · go_enter Tryd.func79, Tryd.ntmps79
    go_wp2
    go_ret2
    exact ⟨rfl, rfl⟩
  · by_cases h0 : at_ < 0
    all_goals
      go_enter Tryd.func79, Tryd.ntmps79
      go_wp2
      go_ret2
      exact ⟨rfl, rfl⟩

theorem get_any (A : Option Addr) (xs : List Int) (c at_ m B : Nat) (w : World) (hn : xs.length ≤ 1000000) (hl : xs.length ≤ c) (hm : 1 ≤ m ∧ m ≤ 8) (h : at_ + m ≤ xs.length)
    (ho : Octets xs) (hr : Holds w B .u8 A xs) :
    Calls Tryd.prog 79 #[.slice A xs.length c, .int .i64 at_, .int .i64 m] w fun e w' => e = .returned (.tuple #[.int .u64 (val ((xs.drop at_).take m)), .int .i64 0]) ∧ w = w' := by
  obtain ⟨b, off, rfl, hb, hc⟩ := hr (by omega)
  have h1 : ¬ (m : Int) < 1 := by omega
  have h2 : ¬ 8 < (m : Int) := by omega
  have h3 : ¬ (at_ : Int) < 0 := by omega
  have h4 : ¬ (xs.length : Int) - m < at_ := by omega
  go_enter Tryd.func79, Tryd.ntmps79
  go_wp2
  go_loop [8, 34] (fun x i => ∃ k : Nat, k ≤ m ∧ i = .int .i64 k ∧ x = .int .u64 (val ((xs.drop at_).take k))) (fun _ i => m - (intOf i).toNat)
  case atStart => exact ⟨0, Nat.zero_le _, rfl, rfl⟩
  case round =>
    obtain ⟨k, hk, rfl, rfl⟩ := hrel
    have hcell : k < m → w.cell? ⟨b, off + at_ + k, none⟩ = some (.int .u8 (xs.getD (at_ + k) 0)) := fun _ => by rw [Nat.add_assoc]; exact hc _ (by omega)
    by_cases hlt : k < m
    · go_wp2
      go_round
      case rel =>
        refine ⟨k + 1, by omega, by go_num, ?_⟩
        have e1 := val_take (xs.drop at_) k (by simp; omega)
        have e2 := shl8_or (val ((xs.drop at_).take k)) (xs[at_ + k]?.getD 0) (val_lt _ (ho.tail _) k (by simp; omega) (by omega)) (ho.at_ _)
        rw [e2, e1]
        simp
      case measure => simp [intOf]; omega
    · go_wp2
      have : k = m := by omega
      subst this
      go_ret2
      exact ⟨rfl, rfl⟩

theorem rget_bad (A : Option Addr) (n c : Nat) (at_ m : Int) (w : World) (hm : m < 1 ∨ 8 < m) :
    Calls Tryd.prog 101 #[.slice A n c, .int .i64 at_, .int .i64 m] w fun e w' => e = .returned (.tuple #[.int .u64 0, .int .i64 1]) ∧ w = w' := by
  rcases hm with hm | hm
  · go_enter Tryd.func101, Tryd.ntmps101
    go_wp2
    go_ret2
    exact ⟨rfl, rfl⟩
  · have hm' : ¬ m < 1 := by omega
    go_enter Tryd.func101, Tryd.ntmps101
    go_wp2
    go_ret2
    exact ⟨rfl, rfl⟩

theorem rget_far (A : Option Addr) (n c : Nat) (at_ m : Int) (w : World) (hn : n ≤ 1000000) (hm : 1 ≤ m ∧ m ≤ 8) (h : at_ < 0 ∨ (n : Int) - m < at_) :
    Calls Tryd.prog 101 #[.slice A n c, .int .i64 at_, .int .i64 m] w fun e w' => e = .returned (.tuple #[.int .u64 0, .int .i64 5]) ∧ w = w' := by
  have h1 : ¬ m < 1 := by omega
  have h2 : ¬ 8 < m := by omega
  by_cases h0 : at_ < 0
  · go_enter Tryd.func101, Tryd.ntmps101
    go_wp2
    go_ret2
    exact ⟨rfl, rfl⟩
  · by_cases h3 : (n : Int) < at_
    · go_enter Tryd.func101, Tryd.ntmps101
      go_wp2
      go_ret2
      exact ⟨rfl, rfl⟩
    · have h4 : (n : Int) - at_ < m := by omega
      go_enter Tryd.func101, Tryd.ntmps101
      go_wp2
      go_ret2
      exact ⟨rfl, rfl⟩

theorem rget_any (A : Option Addr) (xs : List Int) (c at_ m B : Nat) (w : World) (hn : xs.length ≤ 1000000) (hl : xs.length ≤ c) (hm : 1 ≤ m ∧ m ≤ 8) (h : at_ + m ≤ xs.length)
    (ho : Octets xs) (hr : Holds w B .u8 A xs) :
    Calls Tryd.prog 101 #[.slice A xs.length c, .int .i64 at_, .int .i64 m] w fun e w' => e = .returned (.tuple #[.int .u64 (val ((xs.drop at_).take m)), .int .i64 0]) ∧ w = w' := by
  obtain ⟨b, off, rfl, hb, hc⟩ := hr (by omega)
  have h1 : ¬ (m : Int) < 1 := by omega
  have h2 : ¬ 8 < (m : Int) := by omega
  have h3 : ¬ (at_ : Int) < 0 := by omega
  have h4 : ¬ (xs.length : Int) < at_ := by omega
  have h5 : ¬ (xs.length : Int) - at_ < m := by omega
  go_enter Tryd.func101, Tryd.ntmps101
  go_wp2
  go_loop [8, 9] (fun x i => ∃ k : Nat, k ≤ m ∧ i = .int .i64 k ∧ x = .int .u64 (val ((xs.drop at_).take k))) (fun _ i => m - (intOf i).toNat)
  case atStart => exact ⟨0, Nat.zero_le _, rfl, rfl⟩
  case round =>
    obtain ⟨k, hk, rfl, rfl⟩ := hrel
    have hcell : k < m → w.cell? ⟨b, off + (at_ + k), none⟩ = some (.int .u8 (xs.getD (at_ + k) 0)) := fun _ => hc _ (by omega)
    by_cases hlt : k < m
    · have hv := val_lt _ (ho.tail at_) k (by simp; omega) (by omega)
      have hx := ho.at_ (at_ + k)
      go_wp2
      go_round
      case rel =>
        refine ⟨k + 1, by omega, by go_num, ?_⟩
        have e1 := val_take (xs.drop at_) k (by simp; omega)
        rw [e1]
        simp
      case measure => simp [intOf]; omega
    · go_wp2
      have : k = m := by omega
      subst this
      go_ret2
      exact ⟨rfl, rfl⟩

theorem elem8 : IntElem Tryd.prog 22 5 .u8 1 := ⟨Tryd.underlying22, by kernel_rfl, by omega⟩

/-- n, brought between 1 and 8. -/
def clamp (n : Int) : Nat := if n < 1 then 1 else if 8 < n then 8 else n.toNat

theorem clamp_bd (n : Int) : 1 ≤ clamp n ∧ clamp n ≤ 8 := by unfold clamp; split <;> (try split) <;> omega

theorem put_any (A : Option Addr) (xs : List Int) (c B : Nat) (n x : Int) (w : World) (hn : xs.length ≤ 1000000) (hr : Holds w w.heap.size .u8 A xs) (hx : 0 ≤ x ∧ x < 18446744073709551616) :
    Calls Tryd.prog 71 #[.slice A xs.length c, .int .i64 n, .int .u64 x] w fun e w' => ∃ v, e = .returned v ∧ Own w' w.heap.size 5 .u8 v (xs ++ be (clamp n) x) ∧ Below w.heap.size w w' := by
  obtain ⟨p, hp⟩ : ∃ p, (if n < 1 then (1 : Int) else n) = p := ⟨_, rfl⟩
  have hq : (if 8 < p then (8 : Int) else p) = (clamp n : Int) := by subst hp; unfold clamp; split <;> split <;> (try split) <;> omega
  have hm := clamp_bd n
  generalize clamp n = m at *
  go_enter Tryd.func71, Tryd.ntmps71
  go_wp2_with (first
    | (at_make; refine wpList_make_ints _ rfl _ _ _ rfl elem8 xs.length (xs.length + m) rfl rfl rfl (by omega) (by omega) (by omega) ?_; intro w1 own1 hb1 hz1)
    | (have _t := own1; refine wpList_copy_ints _ rfl (.tmp 19) (.tmp 20) 22 rfl elem8 own1 rfl rfl (hr.below hb1) (by simp) (by omega) ?_; clear _t; intro w2 own2 hg2 hb2))
  have own3 : Own w2 w.heap.size 5 .u8 (.slice (some ⟨w.heap.size, 0, none⟩) xs.length (xs.length + m)) xs := by simpa using own2
  have hb3 := hb1.trans hb2
  clear own1 own2 hg2 hb1 hb2
  go_wp2_with fail
  go_loopw [7, 23] (fun v i wr => ∃ j : Nat, j ≤ m ∧ i = .int .i64 j ∧ Own wr w.heap.size 5 .u8 v (xs ++ (be m x).take j) ∧ Below w.heap.size w wr) (fun _ i _ => m - (intOf i).toNat)
  case atStart => exact ⟨0, Nat.zero_le _, rfl, by simpa using own3, hb3⟩
  case round =>
    obtain ⟨j, hj, rfl, own, hb⟩ := hrel
    by_cases hlt : j < m
    · have hsz := hb.size
      have e1 := be_take m x j hlt
      have hbx := byteAt_bd x (m - 1 - j)
      go_wp2_with (at_builtin; refine wpList_append_one _ rfl _ _ _ rfl elem8 own rfl rfl (by simp [be_length]; omega) (by omega) ?_; intro v2 w2 own2 hg2 hb2)
      go_roundw
      case rel => exact ⟨j + 1, by omega, by go_num, by rw [e1, ← List.append_assoc]; exact own2, hb.trans hb2⟩
      case measure => simp [intOf]; omega
    · go_wp2_with fail
      obtain rfl : j = m := by omega
      go_ret
      exact ⟨_, rfl, by rwa [List.take_of_length_le (by rw [be_length]; exact Nat.le_refl _)] at own, hb⟩

/-- What a caller of Put is told: a slice that reads zs. -/
def Reads (w : World) (zs : List Int) (e : Ending) (w' : World) : Prop :=
  ∃ (A : Option Addr) (c : Nat), e = .returned (.slice A zs.length c) ∧ zs.length ≤ c ∧ c ≤ maxLen ∧ Holds w' w'.heap.size .u8 A zs ∧ Below w.heap.size w w'

theorem put_as (A : Option Addr) (xs zs : List Int) (c : Nat) (n x : Int) (w : World) (hz : xs ++ be (clamp n) x = zs) (hn : xs.length ≤ 1000000) (hr : Holds w w.heap.size .u8 A xs) (hx : 0 ≤ x ∧ x < 18446744073709551616) :
    Calls Tryd.prog 71 #[.slice A xs.length c, .int .i64 n, .int .u64 x] w (Reads w zs) :=
  (put_any A xs c 0 n x w hn hr hx).mono fun e w' ⟨v, he, own, hb⟩ => by
    subst hz
    obtain ⟨A', c', rfl, hl, hm, hr'⟩ := own.opened
    exact ⟨A', c', he, hl, hm, hr', hb⟩

end Go.Proofs.YtpnodocjpedcmaaDoor.Oct

namespace Go.Proofs.YtpnodocjpedcmaaDoor.Kit
open Go.ChangeShapes Go.WideShapes Go.ChangeAt Go.RowKit

theorem Own.turned {w w' : World} {B : Nat} {e : TypeId} {k : IntKind} {v : Value} {xs : List Int} (h : Own w B e k v xs) (t : TurnsIn (fun b => v.ownBlock = some b) w w') (hB : B ≤ w.heap.size) : Below B w w' :=
  t.toBelow hB fun b hb he => by have := h.lt b he; omega

theorem Block.cellOf {w : World} {g : Nat} {t : TypeId} {cs : Array Value} (h : Block w g t cs) (i : Nat) {u : Value} (hu : cs[i]? = some u) : w.cell? ⟨g, i, none⟩ = some u := (h.cell i).trans hu

theorem Block.apart {w w' : World} {B g : Nat} {e t : TypeId} {k : IntKind} {v : Value} {xs : List Int} {cs : Array Value} (hb : Block w g t cs) (h : Own w B e k v xs) (hne : e ≠ t) (tu : TurnsIn (fun b => v.ownBlock = some b) w w') : Block w' g t cs :=
  hb.out tu (h.ne_block hb hne)

theorem TurnsIn.row {w w1 w2 : World} {v v1 : Value} (t1 : TurnsIn (fun b => v.ownBlock = some b) w w1) (n1 : Newer w v v1) (t2 : TurnsIn (fun b => v1.ownBlock = some b) w1 w2) : TurnsIn (fun b => v.ownBlock = some b) w w2 :=
  t1.then_ t2 fun b hb hv => by
    rcases n1 with h | h
    · rw [← h]; exact hv
    · have := h b hv; omega

section
variable {P : Program} (w : World)

/-- append(v, ys...), as one step of a region that draws its order: what turned is v's row, or what is new. -/
theorem step_append_out {ops : Array Oper} {o : Oper} {a : Act} {K : Act → World → Prop} {Q : Exit → Act → World → Prop} {E : Prop}
    (hg : o.guard = none) (s x : Operand) (t : TypeId) (ho : o.op = Op.call { callee := Callee.builtin Builtin.append, args := #[s, x], argTypes := #[t, t] })
    {e : TypeId} {k : IntKind} {bytes : Nat} (he : IntElem P t e k bytes) {B B' : Nat} {v : Value} {xs ys : List Int} (hown : Own w B e k v xs) (hs : a.eval s = v)
    {A : Option Addr} {c : Nat} (hx : a.eval x = .slice A ys.length c) (hr : Holds w B' k A ys) (hsz : xs.length + ys.length ≤ 1099511627776) (hbase : B ≤ w.heap.size)
    (hK : ∀ A' c' w', Own w' B e k (.slice A' (xs.length + ys.length) c') (xs ++ ys) → TurnsIn (fun b => v.ownBlock = some b) w w' → Newer w v (.slice A' (xs.length + ys.length) c') → K (a.put o.dst (.slice A' (xs.length + ys.length) c')) w') :
    if Region.wanted o (yielded ops a.tmps) = true then Oper.wp P o a w K Q else E := by
  refine step_append_ints hg s x t ho he hown hs hx hr hsz hbase ?_
  intro v' w' h1 h2 _ h4
  obtain ⟨A', c', rfl, _, _, _⟩ := h1.opened
  have hlen : (xs ++ ys).length = xs.length + ys.length := by simp
  have hk := hK A' c' w'
  rw [hlen] at h1 h4
  rw [hlen]
  exact hk h1 (.ofGrown h2 fun b hb => hb) (Newer.ofApp h4)

/-- append(v, ys...): what turned is v's row, or what is new. -/
theorem wpList_append_out {ops : Array Oper} {rest : List Oper} {o : Oper} {a : Act} {Q : Exit → Act → World → Prop} (hgd : o.guard = none) (s x : Operand) (t : TypeId)
    (ho : o.op = .call { callee := .builtin .append, args := #[s, x], argTypes := #[t, t] }) {e : TypeId} {k : IntKind} {bytes : Nat} (he : IntElem P t e k bytes)
    {B B' : Nat} {v : Value} {xs ys : List Int} (hown : Own w B e k v xs) (hs : a.eval s = v)
    {A : Option Addr} {c : Nat} (hx : a.eval x = .slice A ys.length c) (hr : Holds w B' k A ys) (hsz : xs.length + ys.length ≤ 1099511627776) (hbase : B ≤ w.heap.size)
    (h : ∀ A' c' w', Own w' B e k (.slice A' (xs.length + ys.length) c') (xs ++ ys) → TurnsIn (fun b => v.ownBlock = some b) w w' → Newer w v (.slice A' (xs.length + ys.length) c') → wpList P ops Q rest (a.put o.dst (.slice A' (xs.length + ys.length) c')) w') :
    wpList P ops Q (o :: rest) a w := by
  refine wpList_append_ints _ hgd s x t ho he hown hs hx hr hsz hbase ?_
  intro v' w' h1 h2 _ h4
  obtain ⟨A', c', rfl, _, _, _⟩ := h1.opened
  have hlen : (xs ++ ys).length = xs.length + ys.length := by simp
  have hk := h A' c' w'
  rw [hlen] at h1 h4
  rw [hlen]
  exact hk h1 (.ofGrown h2 fun b hb => hb) (Newer.ofApp h4)

theorem run_append_two {t t2 ty e e2 : TypeId} {k : IntKind} {bytes : Nat} (he : IntElem P t e k bytes) (h2 : P.underlying t2 = some (.slice e2)) (A : Option Addr) (n c : Nat) (y : Value) :
    (Builtin.append_ #[t, t2] ty #[.slice A n c, y]).run P w = (Builtin.append_ #[t, t] ty #[.slice A n c, y]).run P w := by
  obtain ⟨h1, hinfo, _⟩ := he
  obtain ⟨i, hi, _, _, _⟩ := info_parts hinfo
  simp [Builtin.append_, run_underlying h1, run_underlying h2, sizeOf, typeInfo, hi]

/-- append(v, ys...), ys of another type of slices over the same integers. -/
theorem wpList_append_two {ops : Array Oper} {rest : List Oper} {o : Oper} {a : Act} {Q : Exit → Act → World → Prop} (hgd : o.guard = none) (s x : Operand) (t t2 : TypeId)
    (ho : o.op = .call { callee := .builtin .append, args := #[s, x], argTypes := #[t, t2] }) {e e2 : TypeId} (ht2 : P.underlying t2 = some (.slice e2)) {k : IntKind} {bytes : Nat} (he : IntElem P t e k bytes)
    {B B' : Nat} {v : Value} {xs ys : List Int} (hown : Own w B e k v xs) (hs : a.eval s = v)
    {A : Option Addr} {c : Nat} (hx : a.eval x = .slice A ys.length c) (hr : Holds w B' k A ys) (hsz : xs.length + ys.length ≤ 1099511627776) (hbase : B ≤ w.heap.size)
    (h : ∀ A' c' w', Own w' B e k (.slice A' (xs.length + ys.length) c') (xs ++ ys) → TurnsIn (fun b => v.ownBlock = some b) w w' → Newer w v (.slice A' (xs.length + ys.length) c') → wpList P ops Q rest (a.put o.dst (.slice A' (xs.length + ys.length) c')) w') :
    wpList P ops Q (o :: rest) a w := by
  refine wpList_plain hgd fun K hK => ?_
  obtain ⟨v', w', hrun, h1, h2, h4⟩ := run_append_ints (P := P) w (ty := o.type) he hown c hr hsz hbase
  obtain ⟨A0, c0, rfl, _, _, _⟩ := hown.opened
  rw [← run_append_two w he ht2] at hrun
  unfold Oper.wp
  simp only [execOp, ho, resolve, invoke, builtin, Sem.run_bind, Sem.run_pure, Result.andThen_ok, List.map_toArray, List.map_cons, List.map_nil, hs, hx, hrun]
  obtain ⟨A', c', rfl, _, _, _⟩ := h1.opened
  have hlen : (xs ++ ys).length = xs.length + ys.length := by simp
  have hk := h A' c' w'
  rw [hlen] at h1 h4
  rw [hlen]
  exact hK _ _ (hk h1 (.ofGrown h2 fun b hb => hb) (Newer.ofApp h4))

/-- append(v, z), z alone in the newest block. -/
theorem wpList_append_one_out {ops : Array Oper} {rest : List Oper} {o : Oper} {a : Act} {Q : Exit → Act → World → Prop} (hgd : o.guard = none) (s x : Operand) (t : TypeId)
    (ho : o.op = .call { callee := .builtin .append, args := #[s, x], argTypes := #[t, t] }) {e : TypeId} {k : IntKind} {bytes : Nat} (he : IntElem P t e k bytes)
    {B : Nat} {v : Value} {xs : List Int} (hown : Own w B e k v xs) (hs : a.eval s = v)
    {z : Int} {c : Nat} (hx : a.eval x = .slice (some ⟨w.heap.size, 0, none⟩) 1 c) (hsz : xs.length + 1 ≤ 1099511627776) (hbase : B ≤ w.heap.size)
    (h : ∀ A' c' w', Own w' B e k (.slice A' (xs.length + 1) c') (xs ++ [z]) → TurnsIn (fun b => v.ownBlock = some b) w w' → Newer w v (.slice A' (xs.length + 1) c') → wpList P ops Q rest (a.put o.dst (.slice A' (xs.length + 1) c')) w') :
    wpList P ops Q (o :: rest) a (w.alloc (.cells #[.int k z] e)) := by
  refine wpList_append_out (ys := [z]) (B' := w.heap.size + 1) _ hgd s x t ho he (hown.alloc _) hs hx (Holds.new w k z e) (by simpa using hsz) (by simp; omega) ?_
  intro A' c' w' h1 h2 h3
  refine h A' c' w' h1 (((TurnsIn.refl _ w).alloc _).trans h2) ?_
  rcases h3 with h3 | h3
  · exact .inl h3
  · exact .inr fun g hg => by have := h3 g hg; simp at this; omega
end
end Go.Proofs.YtpnodocjpedcmaaDoor.Kit

namespace Go.Proofs.YtpnodocjpedcmaaDoor.Kit
open Go.ChangeShapes Go.WideShapes Go.ChangeAt Go.RowKit

theorem strOfNums_inj {xs ys : List Int} (hx : Octets xs) (hy : Octets ys) (h : strOfNums xs = strOfNums ys) : xs = ys := by
  unfold strOfNums at h
  have h1 := congrArg (fun b : ByteArray => b.data.toList) h
  simp at h1
  have key : ∀ (xs ys : List Int), Octets xs → Octets ys → xs.map (fun n => UInt8.ofNat n.toNat) = ys.map (fun n => UInt8.ofNat n.toNat) → xs = ys := by
    intro xs
    induction xs with
    | nil => intro ys _ _ h; cases ys with
      | nil => rfl
      | cons y ys => simp at h
    | cons x xs ih =>
      intro ys hx hy h
      cases ys with
      | nil => simp at h
      | cons y ys =>
        simp only [List.map_cons, List.cons.injEq] at h
        have hxx := hx x (by simp)
        have hyy := hy y (by simp)
        have e := congrArg UInt8.toNat h.1
        simp only [UInt8.toNat_ofNat'] at e
        have : x = y := by omega
        rw [this, ih ys (fun z hz => hx z (by simp [hz])) (fun z hz => hy z (by simp [hz])) h.2]
  exact key xs ys hx hy h1
end Go.Proofs.YtpnodocjpedcmaaDoor.Kit
