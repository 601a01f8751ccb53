/-
  Own words: a world that has turned in some blocks alone (and has new ones). No program. No conditions beyond what each theorem names.
  Layer 6, sector: what is kept of sectors, as a list and as a map in memory. Conditions: as each theorem names.
  Layer 6, sector: maps of sectors and a device, in memory. Conditions: as each theorem names.
  Layer 6, sector: a device in memory; its small methods: contracts. Conditions: as each theorem names.
  Layer 6, sector: Fuse, Off, blows: contracts. Conditions: as each theorem names.
  Layer 6, sector: Clone, New, Read: contracts. Conditions: as each theorem names.
  Layer 6, sector: Read: contract. Conditions: as each theorem names.
  Layer 6, sector: Write: contract. Conditions: as each theorem names.
  Layer 6, sector: lists of sectors, plain. Conditions: as each theorem names.
  Layer 6, sector: Sync: contract. Conditions: as each theorem names.
  Layer 6, sector: a map's keys, sorted: contract. Conditions: as each theorem names.
  Own words: a row of bytes read as a string; a step that kept rows apart. No program. No conditions beyond what each theorem names.
  Layer 7, part: contracts of the layouts' functions. Conditions: as each theorem names.
  Layer 7, part: whether a layout may be, and its map: contracts. Conditions: as each theorem names.
  Layer 7, part: the document's functions on layouts, and Layout: contracts. Conditions: as each theorem names.
  Layer 7, part: maps of layouts: contracts. Conditions: as each theorem names.
  Own words: each law at the head of a list of operations serves as a step of a region that draws its order. No program. No conditions beyond what each theorem names.
  Layer 7, part: a map is equal to itself; the document's example. Conditions: as each theorem names.
  Layer 7, part: what a nil part answers, and a part of a nil device. Conditions: none.
  Own words: texts of bytes, cut and joined. No program. No conditions beyond what each theorem names.
  Layer 1, sha: bits moved round the end: both functions, one answer. Conditions: as each theorem names.
  Layer 1, sha: two ways to choose bits, one answer; the words of a block and the rounds, as plain functions. No program. No conditions beyond what each theorem names.
  Layer 2, octet: contracts of the program's and the document's functions. Conditions: as each theorem names.
  Own words: two rows of bytes that read as one string are the same. No program. No conditions beyond what each theorem names.
-/
import Derived.Test.YtpnodocjpedcmaaDoorMMem
import Derived.Maps.OwnSet
import Derived.Test.YtpnodocjpedcmaaDoorRows
import Derived.Deep.QuietTactic
import Derived.BigQuiet
import Derived.Lib.SliceRun
import Derived.Deep.RegionWith
import Derived.Deep.CutRange
import Derived.Deep.DeepCutAuto
import Derived.Deep.CutBlock
import Derived.Maps.RangeWalk
import Derived.LoopTactic
import Derived.Test.YtpnodocjpedcmaaDoorMSkA
import Derived.Laws.BytesArg
import Derived.Deep.RegionHeld3
import Derived.Lib.QuietBelow
import Derived.Laws.ResultCell
import Derived.Deep.RegionHeld
import Derived.Laws.StructEq
import Derived.ChangeKeysEq
import Derived.Laws.BitsAllLaws
import Derived.Test.YtpnodocjpedcmaaDoorMGIays0
namespace Go.Proofs.YtpnodocjpedcmaaDoor.Kit
open Go.ChangeShapes Go.WideShapes Go.ChangeAt Go.RowKit

/-- From w to w' nothing has turned but blocks in S and new ones. -/
structure TurnsIn (S : Nat → Prop) (w w' : World) : Prop where
  os : w'.os = w.os
  tape : w'.tape = w.tape
  output : w'.output = w.output
  size : w.heap.size ≤ w'.heap.size
  block : ∀ b, b < w.heap.size → ¬ S b → w'.heap[b]? = w.heap[b]?

section
variable {S T : Nat → Prop} {w w' w1 w2 : World} {B : Nat} {e : TypeId} {k : IntKind} {v : Value} {xs : List Int}

theorem TurnsIn.refl (S : Nat → Prop) (w : World) : TurnsIn S w w := ⟨rfl, rfl, rfl, Nat.le_refl _, fun _ _ _ => rfl⟩
theorem TurnsIn.trans (h : TurnsIn S w w1) (g : TurnsIn S w1 w2) : TurnsIn S w w2 :=
  ⟨g.os.trans h.os, g.tape.trans h.tape, g.output.trans h.output, Nat.le_trans h.size g.size, fun b hb hs => (g.block b (Nat.lt_of_lt_of_le hb h.size) hs).trans (h.block b hb hs)⟩
/-- The second step may turn what is new in the first one, too. -/
theorem TurnsIn.then_ (h : TurnsIn S w w1) (g : TurnsIn T w1 w2) (hT : ∀ b, b < w.heap.size → T b → S b) : TurnsIn S w w2 :=
  ⟨g.os.trans h.os, g.tape.trans h.tape, g.output.trans h.output, Nat.le_trans h.size g.size, fun b hb hs => (g.block b (Nat.lt_of_lt_of_le hb h.size) (fun ht => hs (hT b hb ht))).trans (h.block b hb hs)⟩
theorem TurnsIn.mono (h : TurnsIn S w w') (hT : ∀ b, b < w.heap.size → S b → T b) : TurnsIn T w w' := ⟨h.os, h.tape, h.output, h.size, fun b hb hs => h.block b hb (fun hx => hs (hT b hb hx))⟩
theorem TurnsIn.ofBelow (h : Below B w w') (hs : ∀ b, b < w.heap.size → B ≤ b → S b) : TurnsIn S w w' :=
  ⟨h.os, h.tape, h.output, h.size, fun b hb hn => h.block b (Nat.lt_of_not_le fun hle => hn (hs b hb hle))⟩
theorem TurnsIn.ofNew (h : Below w.heap.size w w') : TurnsIn S w w' := .ofBelow h fun b hb hle => absurd hb (by omega)
theorem TurnsIn.ofGrown {row : Option Nat} (h : w.grownBy w' row) (hs : ∀ b, row = some b → S b) : TurnsIn S w w' :=
  ⟨h.os, h.tape, h.output, h.size, fun b hb hn => h.block b hb fun he => hn (hs b he.symm)⟩
theorem TurnsIn.toBelow (h : TurnsIn S w w') (hB : B ≤ w.heap.size) (hs : ∀ b, b < B → ¬ S b) : Below B w w' :=
  ⟨h.os, h.tape, h.output, h.size, fun b hb => h.block b (by omega) (hs b hb)⟩
theorem TurnsIn.drewN (h : TurnsIn S w w') (n : Nat) : TurnsIn S w (w'.drewN n) := ⟨h.os, h.tape, h.output, h.size, h.block⟩
theorem TurnsIn.alloc (h : TurnsIn S w w') (o : Obj) : TurnsIn S w (w'.alloc o) :=
  ⟨h.os, h.tape, h.output, Nat.le_trans h.size (by simp), fun b hb hn => (Below.heap_alloc w' o b (Nat.lt_of_lt_of_le hb h.size)).trans (h.block b hb hn)⟩
theorem TurnsIn.setCell (h : TurnsIn S w w') {p : Addr} (hp : S p.block ∨ w.heap.size ≤ p.block) (u : Value) : TurnsIn S w (w'.setCell p u) :=
  ⟨h.os, h.tape, h.output, by simpa [World.setCell] using h.size, fun b hb hn => (Below.heap_setCell w' p u b (by
    rintro rfl
    rcases hp with hp | hp
    · exact hn hp
    · omega)).trans (h.block b hb hn)⟩

theorem Own.out (h : Own w B e k v xs) (ho : TurnsIn S w w') (hv : ∀ g, v.ownBlock = some g → ¬ S g) : Own w' B e k v xs := by
  rcases h.2 with ⟨rfl, h0⟩ | ⟨g, cap, cur, rfl, hbg, hg, hnc, hcm, hcs, htake⟩
  · exact ⟨h.1, .inl ⟨rfl, h0⟩⟩
  · exact ⟨h.1, .inr ⟨g, cap, cur, rfl, hbg, (ho.block g (Array.getElem?_eq_some_iff.1 hg).1 (hv g rfl)).trans hg, hnc, hcm, hcs, htake⟩⟩
theorem Block.out {g : Nat} {t : TypeId} {cs : Array Value} (h : Block w g t cs) (ho : TurnsIn S w w') (hg : ¬ S g) : Block w' g t cs := (ho.block g h.lt hg).trans h
theorem Holds.out {A : Option Addr} (h : Holds w B k A xs) (ho : TurnsIn S w w') (hB : B ≤ w.heap.size) (hs : ∀ b, b < B → ¬ S b) : Holds w' B k A xs := h.below (ho.toBelow hB hs)

/-- What turned keeps a block's kind of row: a row that grew lies where it lay, or is new. -/
def Newer (w : World) (v v' : Value) : Prop := v'.ownBlock = v.ownBlock ∨ ∀ g, v'.ownBlock = some g → w.heap.size ≤ g
theorem Newer.refl (w : World) (v : Value) : Newer w v v := .inl rfl
theorem Newer.trans {v1 v2 : Value} (h : Newer w v v1) (hs : w.heap.size ≤ w1.heap.size) (g : Newer w1 v1 v2) : Newer w v v2 := by
  rcases g with g | g
  · rcases h with h | h
    · exact .inl (g.trans h)
    · exact .inr fun x hx => h x (g ▸ hx)
  · exact .inr fun x hx => Nat.le_trans hs (g x hx)
theorem Newer.ofApp {v' : Value} (h : v'.ownBlock = v.ownBlock ∨ v'.ownBlock = some w.heap.size) : Newer w v v' := by
  rcases h with h | h
  · exact .inl h
  · exact .inr fun g hg => by rw [h] at hg; injection hg with hg; omega
/-- A row of one's own that lies apart from another one stays apart. -/
theorem Newer.apart {v' u : Value} {g : Nat} (h : Newer w v v') (hu : u.ownBlock = some g) (hl : g < w.heap.size) (hn : v.ownBlock ≠ some g) : v'.ownBlock ≠ some g := by
  rcases h with h | h
  · rw [h]; exact hn
  · intro he; have := h g he; omega
end

/-- append(v, ys...), as one step of a region that draws its order. -/
theorem step_append_ints {P : Program} {ops : Array Oper} {o : Oper} {a : Act} {w : World} {K : Act → World → Prop} {Q : Exit → Act → World → Prop} {E : Prop}
    (hg : o.guard = none) (s x : Operand) (t : TypeId) (ho : o.op = Op.call { callee := Callee.builtin Builtin.append, args := #[s, x], argTypes := #[t, t] })
    {e : TypeId} {k : IntKind} {bytes : Nat} (he : IntElem P t e k bytes) {B B' : Nat} {v : Value} {xs ys : List Int} (hown : Own w B e k v xs) (hs : a.eval s = v)
    {A : Option Addr} {c : Nat} (hx : a.eval x = .slice A ys.length c) (hr : Holds w B' k A ys) (hsz : xs.length + ys.length ≤ 1099511627776) (hbase : B ≤ w.heap.size)
    (hK : ∀ v' w', Own w' B e k v' (xs ++ ys) → w.grownBy w' v.ownBlock → Below B w w' → (v'.ownBlock = v.ownBlock ∨ v'.ownBlock = some w.heap.size) → K (a.put o.dst v') w') :
    if Region.wanted o (yielded ops a.tmps) = true then Oper.wp P o a w K Q else E := by
  have hw : Region.wanted o (yielded ops a.tmps) = true := by simp [Region.wanted, hg]
  rw [if_pos hw]
  obtain ⟨v', w', hrun, h2, h3, h4⟩ := run_append_ints (P := P) w (ty := o.type) he hown c hr hsz hbase
  unfold Oper.wp
  simp [execOp, ho, resolve, invoke, builtin, hs, hx, hrun, Result.andThen]
  exact hK _ _ h2 h3 (below_of_grown h3 hbase fun g hg => (hown.lt g hg).1) h4

/-- append(v, z), z alone in the newest block, as one step of a region that draws its order; a block of other cells stays as it is. -/
theorem step_append_one {P : Program} {ops : Array Oper} {o : Oper} {a : Act} {w : World} {K : Act → World → Prop} {Q : Exit → Act → World → Prop} {E : Prop}
    (hg : o.guard = none) (s x : Operand) (t : TypeId) (ho : o.op = Op.call { callee := Callee.builtin Builtin.append, args := #[s, x], argTypes := #[t, t] })
    {e : TypeId} {k : IntKind} {bytes : Nat} (he : IntElem P t e k bytes) {B : Nat} {v : Value} {xs : List Int} {z : Int} (hown : Own w B e k v xs) (hs : a.eval s = v)
    {c : Nat} (hx : a.eval x = .slice (some ⟨w.heap.size, 0, none⟩) 1 c) (hsz : xs.length + 1 ≤ 1099511627776) (hbase : B ≤ w.heap.size)
    {g : Nat} {tg : TypeId} {cs : Array Value} (hblk : Block w g tg cs) (hne : e ≠ tg)
    (hK : ∀ A' c' w', Own w' B e k (.slice A' (xs.length + 1) c') (xs ++ [z]) → TurnsIn (fun b => v.ownBlock = some b) w w' → Newer w v (.slice A' (xs.length + 1) c') → Block w' g tg cs → K (a.put o.dst (.slice A' (xs.length + 1) c')) w') :
    if Region.wanted o (yielded ops a.tmps) = true then Oper.wp P o a (w.alloc (.cells #[.int k z] e)) K Q else E := by
  refine step_append_ints (ys := [z]) hg s x t ho he (hown.alloc _) hs hx (Holds.new w k z e) (by simpa using hsz) (by simp; omega) ?_
  intro v' w' h1 h2 h3 h4
  obtain ⟨A', c', rfl, _, _, _⟩ := h1.opened
  have hlen : (xs ++ [z]).length = xs.length + 1 := by simp
  have hk := hK A' c' w'
  rw [hlen] at h1 h4
  rw [hlen]
  refine hk h1 (((TurnsIn.refl _ w).alloc _).trans (.ofGrown h2 fun b hb => hb)) ?_ ((hblk.alloc _).grown h2 (hown.ne_block hblk hne))
  rcases h4 with h4 | h4
  · exact .inl h4
  · exact .inr fun g hg => by rw [h4] at hg; simp at hg; omega

/-- The same behind the region's draw. -/
theorem step_append_one_drew {P : Program} {ops : Array Oper} {o : Oper} {a : Act} {w : World} {K : Act → World → Prop} {Q : Exit → Act → World → Prop} {E : Prop}
    (hg : o.guard = none) (s x : Operand) (t : TypeId) (ho : o.op = Op.call { callee := Callee.builtin Builtin.append, args := #[s, x], argTypes := #[t, t] })
    {e : TypeId} {k : IntKind} {bytes : Nat} (he : IntElem P t e k bytes) {B : Nat} {v : Value} {xs : List Int} {z : Int} (hown : Own w B e k v xs) (hs : a.eval s = v)
    {c : Nat} (hx : a.eval x = .slice (some ⟨w.heap.size, 0, none⟩) 1 c) (hsz : xs.length + 1 ≤ 1099511627776) (hbase : B ≤ w.heap.size)
    {g : Nat} {tg : TypeId} {cs : Array Value} (hblk : Block w g tg cs) (hne : e ≠ tg)
    (hK : ∀ A' c' w', Own w' B e k (.slice A' (xs.length + 1) c') (xs ++ [z]) → TurnsIn (fun b => v.ownBlock = some b) w w' → Newer w v (.slice A' (xs.length + 1) c') → Block w' g tg cs → K (a.put o.dst (.slice A' (xs.length + 1) c')) w') :
    if Region.wanted o (yielded ops a.tmps) = true then Oper.wp P o a (w.alloc (.cells #[.int k z] e)).drew K Q else E := by
  have h := step_append_one (E := E) (K := K) (Q := Q) (ops := ops) (w := w.drew) (z := z) hg s x t ho he (by exact hown) hs hx hsz hbase (by exact hblk) hne
    (fun A' c' w' h1 h2 h3 h4 => hK A' c' w' h1 ⟨h2.os, h2.tape, h2.output, h2.size, h2.block⟩ h3 h4)
  exact h
end Go.Proofs.YtpnodocjpedcmaaDoor.Kit

namespace Go.Proofs.YtpnodocjpedcmaaDoor.Sec
open Go.ChangeShapes Go.WideShapes Go.ChangeAt Go.RowKit Go.Proofs.YtpnodocjpedcmaaDoor.Kit Go.Maps

/-- Sectors: their numbers, rising; the bytes of each, or none, where it is torn. -/
abbrev Sl := List (Int × Option (List Int))
def putS : Sl → Int → Option (List Int) → Sl
  | [], k, o => [(k, o)]
  | (j, u) :: r, k, o => if k < j then (k, o) :: (j, u) :: r else if k = j then (k, o) :: r else (j, u) :: putS r k o
def getS : Sl → Int → Option (Option (List Int))
  | [], _ => none
  | (j, u) :: r, k => if j = k then some u else getS r k
def Up (l : Sl) : Prop := l.Pairwise (fun p q => p.1 < q.1)

theorem mem_putS {l : Sl} {k : Int} {o : Option (List Int)} {p : Int × Option (List Int)} (h : p ∈ putS l k o) : p = (k, o) ∨ p ∈ l := by
  induction l with
  | nil => simp [putS] at h; exact Or.inl h
  | cons q r ih =>
    obtain ⟨j, u⟩ := q
    unfold putS at h
    split at h
    · rcases List.mem_cons.1 h with h | h
      · exact Or.inl h
      · exact Or.inr h
    · split at h
      · rcases List.mem_cons.1 h with h | h
        · exact Or.inl h
        · exact Or.inr (List.mem_cons_of_mem _ h)
      · rcases List.mem_cons.1 h with h | h
        · exact Or.inr (h ▸ List.mem_cons_self)
        · rcases ih h with h | h
          · exact Or.inl h
          · exact Or.inr (List.mem_cons_of_mem _ h)
theorem up_nil : Up [] := List.Pairwise.nil
theorem Up.putS {l : Sl} (h : Up l) (k : Int) (o : Option (List Int)) : Up (putS l k o) := by
  induction l with
  | nil => exact List.pairwise_singleton _ _
  | cons q r ih =>
    obtain ⟨j, u⟩ := q
    obtain ⟨h1, h2⟩ := List.pairwise_cons.1 h
    unfold Sec.putS
    split
    · rename_i hk
      exact List.pairwise_cons.2 ⟨fun p hp => by
        rcases List.mem_cons.1 hp with rfl | hp
        · exact hk
        · have : j < p.1 := h1 p hp
          show k < p.1
          omega, h⟩
    · split
      · rename_i hk
        exact List.pairwise_cons.2 ⟨fun p hp => by have : j < p.1 := h1 p hp; show k < p.1; omega, h2⟩
      · exact List.pairwise_cons.2 ⟨fun p hp => by
          rcases mem_putS hp with rfl | hp
          · show j < k; omega
          · exact h1 p hp, ih h2⟩
theorem up_length {c : Int} : ∀ (l : Sl) (a : Int), Up l → (∀ p ∈ l, a ≤ p.1 ∧ p.1 < c) → (l.length : Int) ≤ max (c - a) 0
  | [], _, _, _ => by simp; omega
  | q :: r, a, h, hb => by
    obtain ⟨h1, h2⟩ := List.pairwise_cons.1 h
    have hq := hb q (by simp)
    have := up_length r (q.1 + 1) h2 (fun p hp => ⟨by have : q.1 < p.1 := h1 p hp; omega, (hb p (List.mem_cons_of_mem _ hp)).2⟩)
    simp only [List.length_cons, Int.natCast_add]
    omega

/-! ### in memory -/
def codeS (g m c : Nat) : DataW Unit := .agg [.lit (.int .i64 g), .lit (.int .i64 m), .lit (.int .i64 c)]
/-- How the bytes of a sector that waits read. -/
def RW (v : Value) : Option (DataW Unit × List MemPlace) :=
  match v with
  | .slice (some ⟨g, 0, none⟩) m c => some (codeS g m c, [])
  | .slice none 0 0 => some (.lit (.bool false), [])
  | _ => none
/-- How what is kept of a sector reads. -/
def RK (v : Value) : Option (DataW Unit × List MemPlace) :=
  match v with
  | .agg cs =>
    match cs.toList with
    | [.slice (some ⟨g, 0, none⟩) m c, .bool false] => some (codeS g m c, [])
    | [.slice none 0 0, .bool t] => some (.lit (.bool t), [])
    | _ => none
  | _ => none
theorem codeS_inj {g m c g' m' c' : Nat} (h : codeS g m c = codeS g' m' c') : g = g' ∧ m = m' ∧ c = c' := by
  unfold codeS at h
  simp at h
  omega
theorem RW_some {v : Value} {g m c : Nat} {ps : List MemPlace} (h : RW v = some (codeS g m c, ps)) : v = .slice (some ⟨g, 0, none⟩) m c := by
  unfold RW at h
  split at h
  · simp only [Option.some.injEq, Prod.mk.injEq] at h
    obtain ⟨rfl, rfl, rfl⟩ := codeS_inj h.1
    rfl
  · simp [codeS] at h
  · cases h
theorem RW_none {v : Value} {ps : List MemPlace} (h : RW v = some (.lit (.bool false), ps)) : v = .slice none 0 0 := by
  unfold RW at h
  split at h
  · simp [codeS] at h
  · rfl
  · cases h
theorem RK_some {v : Value} {g m c : Nat} {ps : List MemPlace} (h : RK v = some (codeS g m c, ps)) : v = .agg #[.slice (some ⟨g, 0, none⟩) m c, .bool false] := by
  unfold RK at h
  split at h
  · rename_i cs
    split at h
    · rename_i h2
      simp only [Option.some.injEq, Prod.mk.injEq] at h
      obtain ⟨rfl, rfl, rfl⟩ := codeS_inj h.1
      congr 1
      exact Array.toList_inj.1 h2
    · simp [codeS] at h
    · cases h
  · cases h
theorem RK_lit {v : Value} {t : Bool} {ps : List MemPlace} (h : RK v = some (.lit (.bool t), ps)) : v = .agg #[.slice none 0 0, .bool t] := by
  unfold RK at h
  split at h
  · rename_i cs
    split at h
    · simp [codeS] at h
    · rename_i h2
      simp only [Option.some.injEq, Prod.mk.injEq, DataW.lit.injEq, Lit.bool.injEq] at h
      obtain ⟨rfl, _⟩ := h
      congr 1
      exact Array.toList_inj.1 h2
    · cases h
  · cases h

/-- An entry of a map is a sector of the list. -/
def Tie (w : World) (I : Nat → Prop) (n : Nat) (p : Lit × DataW Unit) (q : Int × Option (List Int)) : Prop :=
  p.1 = .int .i64 q.1 ∧ match q.2 with
    | some xs => ∃ g c, p.2 = codeS g n c ∧ xs.length = n ∧ Octets xs ∧ I g ∧ Own w 0 5 .u8 (.slice (some ⟨g, 0, none⟩) n c) xs
    | none => p.2 = .lit (.bool true)
inductive Ties (w : World) (I : Nat → Prop) (n : Nat) : List (Lit × DataW Unit) → Sl → Prop
  | nil : Ties w I n [] []
  | cons {p q es l} : Tie w I n p q → Ties w I n es l → Ties w I n (p :: es) (q :: l)
theorem Ties.length {w : World} {I : Nat → Prop} {n : Nat} {es : List (Lit × DataW Unit)} {l : Sl} (h : Ties w I n es l) : es.length = l.length := by
  induction h with
  | nil => rfl
  | cons _ _ ih => simp [ih]

theorem same_int (j k : Int) : (Lit.int .i64 j).sameKey (.int .i64 k) = decide (j = k) := by simp [Lit.sameKey]
theorem before_int (j k : Int) : (Lit.int .i64 j).before (.int .i64 k) = decide (j < k) := rfl

/-- Where all numbers are above k, no entry is k's. -/
theorem Ties.none_same {w : World} {I : Nat → Prop} {n : Nat} {es : List (Lit × DataW Unit)} {l : Sl} (h : Ties w I n es l) (k : Int) (hk : ∀ p ∈ l, k < p.1) : es.filter (fun p => !p.1.sameKey (.int .i64 k)) = es := by
  induction h with
  | nil => rfl
  | @cons p q es l ht _ ih =>
    have hq := hk q (by simp)
    rw [List.filter_cons, ht.1, same_int, decide_eq_false (by omega), ih (fun x hx => hk x (List.mem_cons_of_mem _ hx))]
    rfl
theorem Ties.insert_front {w : World} {I : Nat → Prop} {n : Nat} {es : List (Lit × DataW Unit)} {l : Sl} (h : Ties w I n es l) (k : Int) (d : DataW Unit) (hk : ∀ p ∈ l, k < p.1) : DataW.insert (.int .i64 k, d) es = (.int .i64 k, d) :: es := by
  cases h with
  | nil => rfl
  | @cons p q es l ht _ =>
    have hq := hk q (by simp)
    unfold DataW.insert
    rw [ht.1]
    rw [before_int, decide_eq_true hq]
    rfl

theorem Ties.put {w : World} {I : Nat → Prop} {n : Nat} {es : List (Lit × DataW Unit)} {l : Sl} (h : Ties w I n es l) (hu : Up l) (k : Int) (d : DataW Unit) (o : Option (List Int)) (ht : Tie w I n (.int .i64 k, d) (k, o)) :
    Ties w I n (DataW.insert (.int .i64 k, d) (es.filter fun p => !p.1.sameKey (.int .i64 k))) (putS l k o) := by
  induction h with
  | nil => exact .cons ht .nil
  | @cons p q es l hp hr ih =>
    obtain ⟨j, u⟩ := q
    obtain ⟨h1, h2⟩ := List.pairwise_cons.1 hu
    have hp1 : p.1 = .int .i64 j := hp.1
    rw [List.filter_cons, hp1, same_int]
    unfold putS
    by_cases c1 : k < j
    · rw [if_pos c1, decide_eq_false (by omega), hr.none_same k (fun x hx => by have : j < x.1 := h1 x hx; omega)]
      show Ties w I n (DataW.insert _ (p :: es)) _
      unfold DataW.insert
      rw [hp1, before_int, decide_eq_true c1]
      exact .cons ht (.cons hp hr)
    · by_cases c2 : k = j
      · rw [if_neg c1, if_pos c2, decide_eq_true c2.symm, hr.none_same k (fun x hx => by have : j < x.1 := h1 x hx; omega)]
        show Ties w I n (DataW.insert _ es) _
        rw [hr.insert_front k d (fun x hx => by have : j < x.1 := h1 x hx; omega)]
        exact .cons ht hr
      · rw [if_neg c1, if_neg c2, decide_eq_false (fun e => c2 e.symm)]
        show Ties w I n (DataW.insert _ (p :: _)) _
        unfold DataW.insert
        rw [hp1, before_int, decide_eq_false (by omega)]
        exact .cons hp (ih h2)

theorem atKey_map (es : List (Lit × DataW Unit)) (k : Lit) (z : DataW Unit) : (DataW.map es).atKey k z = ((es.find? (fun p => p.1.sameKey k)).map (·.2)).getD z := by
  unfold DataW.atKey
  simp only
  split
  · rename_i h; rw [h]; rfl
  · rename_i h; rw [h]; rfl

theorem Ties.get_yes {w : World} {I : Nat → Prop} {n : Nat} {es : List (Lit × DataW Unit)} {l : Sl} (h : Ties w I n es l) (k : Int) (o : Option (List Int)) (hg : getS l k = some o) :
    Maps.has (.map es) (.int .i64 k) = true ∧ ∃ d, (∀ z, (DataW.map es).atKey (.int .i64 k) z = d) ∧ Tie w I n (.int .i64 k, d) (k, o) := by
  induction h with
  | nil => cases hg
  | @cons p q es l hp hr ih =>
    obtain ⟨j, u⟩ := q
    have hp1 : p.1 = .int .i64 j := hp.1
    unfold getS at hg
    rw [Maps.has_eq, List.any_cons, hp1, same_int]
    by_cases c : j = k
    · subst c
      rw [if_pos rfl] at hg
      injection hg with hg
      subst hg
      refine ⟨by simp, p.2, fun z => ?_, by rw [← hp1]; exact hp⟩
      rw [atKey_map, List.find?_cons, hp1, same_int]
      simp
    · rw [if_neg c] at hg
      obtain ⟨h1, d, h2, h3⟩ := ih hg
      rw [Maps.has_eq] at h1
      refine ⟨by rw [h1]; simp, d, fun z => ?_, h3⟩
      rw [atKey_map, List.find?_cons, hp1, same_int, decide_eq_false c, ← h2 z, atKey_map]
theorem Ties.get_no {w : World} {I : Nat → Prop} {n : Nat} {es : List (Lit × DataW Unit)} {l : Sl} (h : Ties w I n es l) (k : Int) (hg : getS l k = none) :
    Maps.has (.map es) (.int .i64 k) = false ∧ ∀ z, (DataW.map es).atKey (.int .i64 k) z = z := by
  induction h with
  | nil => exact ⟨rfl, fun _ => rfl⟩
  | @cons p q es l hp hr ih =>
    obtain ⟨j, u⟩ := q
    have hp1 : p.1 = .int .i64 j := hp.1
    unfold getS at hg
    rw [Maps.has_eq, List.any_cons, hp1, same_int]
    by_cases c : j = k
    · rw [if_pos c] at hg; cases hg
    · rw [if_neg c] at hg
      obtain ⟨h1, h2⟩ := ih hg
      rw [Maps.has_eq] at h1
      refine ⟨by rw [h1]; simp [c], fun z => ?_⟩
      rw [atKey_map, List.find?_cons, hp1, same_int, decide_eq_false c]
      have := h2 z
      rw [atKey_map] at this
      exact this

/-- The rows of a list stay, where no map or other block of the call's own is a row. -/
theorem Tie.out {S : Nat → Prop} {w w' : World} {I : Nat → Prop} {n : Nat} {p : Lit × DataW Unit} {q : Int × Option (List Int)} (h : Tie w I n p q) (t : TurnsIn S w w') (hS : ∀ b, S b → I b → ∀ cs f, w.heap[b]? ≠ some (.cells cs 5 f)) : Tie w' I n p q := by
  obtain ⟨h1, h2⟩ := h
  refine ⟨h1, ?_⟩
  cases hq : q.2 with
  | none => rw [hq] at h2; exact h2
  | some xs =>
    rw [hq] at h2
    obtain ⟨g, c, e1, e2, e3, eI, e4⟩ := h2
    refine ⟨g, c, e1, e2, e3, eI, e4.out t fun x hx hs => ?_⟩
    have hxg : g = x := by simpa [Value.ownBlock] using hx
    subst hxg
    rcases e4.2 with ⟨h0, _⟩ | ⟨g', cap, cur, he, _, hg, _⟩
    · cases h0
    · injection he with he _
      injection he with he
      injection he with he
      exact hS g hs eI _ _ (he ▸ hg)
theorem Ties.out {S : Nat → Prop} {w w' : World} {I : Nat → Prop} {n : Nat} {es : List (Lit × DataW Unit)} {l : Sl} (h : Ties w I n es l) (t : TurnsIn S w w') (hS : ∀ b, S b → I b → ∀ cs f, w.heap[b]? ≠ some (.cells cs 5 f)) : Ties w' I n es l := by
  induction h with
  | nil => exact .nil
  | cons hp _ ih => exact .cons (hp.out t hS) ih
theorem Tie.mono {w : World} {I J : Nat → Prop} {n : Nat} {p : Lit × DataW Unit} {q : Int × Option (List Int)} (h : Tie w I n p q) (hJ : ∀ g, g < w.heap.size → I g → J g) : Tie w J n p q := by
  obtain ⟨h1, h2⟩ := h
  refine ⟨h1, ?_⟩
  cases hq : q.2 with
  | none => rw [hq] at h2; exact h2
  | some xs =>
    rw [hq] at h2
    obtain ⟨g, c, e1, e2, e3, eI, e4⟩ := h2
    exact ⟨g, c, e1, e2, e3, hJ g (e4.lt g rfl).2 eI, e4⟩
theorem Ties.mono {w : World} {I J : Nat → Prop} {n : Nat} {es : List (Lit × DataW Unit)} {l : Sl} (h : Ties w I n es l) (hJ : ∀ g, g < w.heap.size → I g → J g) : Ties w J n es l := by
  induction h with
  | nil => exact .nil
  | cons hp _ ih => exact .cons (hp.mono hJ) ih
end Go.Proofs.YtpnodocjpedcmaaDoor.Sec

namespace Go.Proofs.YtpnodocjpedcmaaDoor.Sec
open Go.ChangeShapes Go.WideShapes Go.ChangeAt Go.RowKit Go.Proofs.YtpnodocjpedcmaaDoor.Kit Go.Maps

theorem len_ok {n : Nat} (h : n < 1000000000) : n < maxLen := by unfold maxLen; omega
theorem keyI : Keyed Tryd.prog 3 := int_keyed Tryd.underlying3
theorem key_of {k : Int} (h : -9223372036854775808 ≤ k ∧ k ≤ 9223372036854775807) : keyOf Tryd.prog 3 (.int .i64 k) = some (.int .i64 k) :=
  keyOf_int_mk Tryd.underlying3 (WalkArith.wf_i64 h)
theorem zeroW (w : World) : (zeroValue 22).run Tryd.prog w = .ok (.slice none 0 0) w := by kernel_rfl
theorem zeroK (w : World) : (zeroValue 103).run Tryd.prog w = .ok (.agg #[.slice none 0 0, .bool false]) w := by kernel_rfl
theorem RW_zero : RW (.slice none 0 0) = some (.lit (.bool false), []) := rfl
theorem RK_zero : RK (.agg #[.slice none 0 0, .bool false]) = some (.lit (.bool false), []) := rfl

/-- Block b is a map of these sectors, all of n bytes. -/
def MapAt (w : World) (I : Nat → Prop) (R : Value → Option (DataW Unit × List MemPlace)) (b n : Nat) (l : Sl) : Prop :=
  ∃ es, w.ownsMap Tryd.prog 3 R b l.length (.map es) ∧ Ties w I n es l
theorem MapAt.mono {w : World} {I J : Nat → Prop} {R : Value → Option (DataW Unit × List MemPlace)} {b n : Nat} {l : Sl} (h : MapAt w I R b n l) (hJ : ∀ g, g < w.heap.size → I g → J g) : MapAt w J R b n l := by
  obtain ⟨es, h1, h2⟩ := h
  exact ⟨es, h1, h2.mono hJ⟩
theorem MapAt.lt {w : World} {I : Nat → Prop} {R : Value → Option (DataW Unit × List MemPlace)} {b n : Nat} {l : Sl} (h : MapAt w I R b n l) : b < w.heap.size := by
  obtain ⟨es, h1, _⟩ := h
  exact h1.lt
theorem MapAt.no_row {w : World} {I : Nat → Prop} {R : Value → Option (DataW Unit × List MemPlace)} {b n : Nat} {l : Sl} (h : MapAt w I R b n l) (cs : Array Value) (t : TypeId) (f : Nat × Nat) : w.heap[b]? ≠ some (.cells cs t f) := by
  obtain ⟨es, ⟨e1, c1, h1, _⟩, _⟩ := h
  rw [h1]
  intro e
  injection e with e
  cases e
theorem ownsMap_tight {w : World} {R : Value → Option (DataW Unit × List MemPlace)} {b n : Nat} {es : List (Lit × DataW Unit)} (h : w.ownsMap Tryd.prog 3 R b n (.map es)) : w.ownsMap Tryd.prog 3 R b es.length (.map es) := by
  obtain ⟨e1, c1, h1, F, hs, hD⟩ := h
  refine ⟨e1, c1, h1, F, ?_, hD⟩
  injection hD with hD
  rw [hD, length_sorted]
  simp
theorem MapAt.of {w : World} {I : Nat → Prop} {R : Value → Option (DataW Unit × List MemPlace)} {b n N : Nat} {es : List (Lit × DataW Unit)} {l : Sl} (h : w.ownsMap Tryd.prog 3 R b N (.map es)) (t : Ties w I n es l) : MapAt w I R b n l := by
  refine ⟨es, ?_, t⟩
  have := ownsMap_tight h
  rw [t.length] at this
  exact this
theorem MapAt.made (w : World) (I : Nat → Prop) (R : Value → Option (DataW Unit × List MemPlace)) (n : Nat) : MapAt (w.alloc (.map #[] 0)) I R w.heap.size n [] :=
  ⟨[], World.ownsMap_made _ _ _ _, .nil⟩
/-- A map stays while other blocks, none of them a row of bytes, turn. -/
theorem MapAt.out {S : Nat → Prop} {w w' : World} {I : Nat → Prop} {R : Value → Option (DataW Unit × List MemPlace)} {b n : Nat} {l : Sl} (h : MapAt w I R b n l) (t : TurnsIn S w w') (hb : ¬ S b) (hS : ∀ b, S b → I b → ∀ cs f, w.heap[b]? ≠ some (.cells cs 5 f)) : MapAt w' I R b n l := by
  obtain ⟨es, ⟨e1, c1, h1, r⟩, h2⟩ := h
  exact ⟨es, ⟨e1, c1, (t.block b (Array.getElem?_eq_some_iff.1 h1).1 hb).trans h1, r⟩, h2.out t hS⟩

/-- The block of a row of bytes is no map. -/
theorem row_not_map {w : World} {I : Nat → Prop} {R : Value → Option (DataW Unit × List MemPlace)} {b n : Nat} {l : Sl} (h : MapAt w I R b n l) : ∀ x, x = b → ∀ cs f, w.heap[x]? ≠ some (.cells cs 5 f) := by
  rintro x rfl cs f
  exact h.no_row cs _ f

section
variable {w : World} {I : Nat → Prop} {b n : Nat} {l : Sl}

theorem MapAt.look_yes (h : MapAt w I RW b n l) (k : Int) (hk : -9223372036854775808 ≤ k ∧ k ≤ 9223372036854775807) (xs : List Int) (hg : getS l k = some (some xs)) (c : Bool) :
    ∃ g m, (Instr.lookup 89 (.map (some b)) (.int .i64 k) c).run Tryd.prog w = .ok (if c then .tuple #[.slice (some ⟨g, 0, none⟩) n m, .bool true] else .slice (some ⟨g, 0, none⟩) n m) w ∧ xs.length = n ∧ Octets xs ∧ I g ∧ Own w 0 5 .u8 (.slice (some ⟨g, 0, none⟩) n m) xs := by
  obtain ⟨es, h1, h2⟩ := h
  obtain ⟨a1, d, a2, _, a3⟩ := h2.get_yes k _ hg
  obtain ⟨g, m, e1, e2, e3, eI, e4⟩ := a3
  obtain ⟨v, ps, hr, hv⟩ := h1.look_ok keyI Tryd.underlying89 (zeroW w) RW_zero (key_of hk)
  obtain ⟨v', ps', hr', hv'⟩ := h1.lookup keyI Tryd.underlying89 (zeroW w) RW_zero (key_of hk)
  rw [a2] at hv hv'
  change d = codeS g n m at e1
  subst e1
  obtain rfl := RW_some hv
  obtain rfl := RW_some hv'
  refine ⟨g, m, ?_, e2, e3, eI, e4⟩
  cases c with
  | true => rw [hr, a1]; rfl
  | false => rw [hr']; rfl
theorem MapAt.look_no (h : MapAt w I RW b n l) (k : Int) (hk : -9223372036854775808 ≤ k ∧ k ≤ 9223372036854775807) (hg : getS l k = none) :
    (Instr.lookup 89 (.map (some b)) (.int .i64 k) true).run Tryd.prog w = .ok (.tuple #[.slice none 0 0, .bool false]) w := by
  obtain ⟨es, h1, h2⟩ := h
  obtain ⟨a1, a2⟩ := h2.get_no k hg
  obtain ⟨v, ps, hr, hv⟩ := h1.look_ok keyI Tryd.underlying89 (zeroW w) RW_zero (key_of hk)
  rw [a2] at hv
  obtain rfl := RW_none hv
  rw [hr, a1]
theorem MapAt.kept_yes (h : MapAt w I RK b n l) (k : Int) (hk : -9223372036854775808 ≤ k ∧ k ≤ 9223372036854775807) (xs : List Int) (hg : getS l k = some (some xs)) :
    ∃ g m, (Instr.lookup 88 (.map (some b)) (.int .i64 k) true).run Tryd.prog w = .ok (.tuple #[.agg #[.slice (some ⟨g, 0, none⟩) n m, .bool false], .bool true]) w ∧ xs.length = n ∧ Octets xs ∧ I g ∧ Own w 0 5 .u8 (.slice (some ⟨g, 0, none⟩) n m) xs := by
  obtain ⟨es, h1, h2⟩ := h
  obtain ⟨a1, d, a2, _, a3⟩ := h2.get_yes k _ hg
  obtain ⟨g, m, e1, e2, e3, eI, e4⟩ := a3
  obtain ⟨v, ps, hr, hv⟩ := h1.look_ok keyI Tryd.underlying88 (zeroK w) RK_zero (key_of hk)
  rw [a2] at hv
  change d = codeS g n m at e1
  subst e1
  obtain rfl := RK_some hv
  exact ⟨g, m, by rw [hr, a1], e2, e3, eI, e4⟩
theorem MapAt.kept_torn (h : MapAt w I RK b n l) (k : Int) (hk : -9223372036854775808 ≤ k ∧ k ≤ 9223372036854775807) (hg : getS l k = some none) :
    (Instr.lookup 88 (.map (some b)) (.int .i64 k) true).run Tryd.prog w = .ok (.tuple #[.agg #[.slice none 0 0, .bool true], .bool true]) w := by
  obtain ⟨es, h1, h2⟩ := h
  obtain ⟨a1, d, a2, _, a3⟩ := h2.get_yes k _ hg
  change d = .lit (.bool true) at a3
  obtain ⟨v, ps, hr, hv⟩ := h1.look_ok keyI Tryd.underlying88 (zeroK w) RK_zero (key_of hk)
  rw [a2, a3] at hv
  obtain rfl := RK_lit hv
  rw [hr, a1]
theorem MapAt.kept_no (h : MapAt w I RK b n l) (k : Int) (hk : -9223372036854775808 ≤ k ∧ k ≤ 9223372036854775807) (hg : getS l k = none) :
    (Instr.lookup 88 (.map (some b)) (.int .i64 k) true).run Tryd.prog w = .ok (.tuple #[.agg #[.slice none 0 0, .bool false], .bool false]) w := by
  obtain ⟨es, h1, h2⟩ := h
  obtain ⟨a1, a2⟩ := h2.get_no k hg
  obtain ⟨v, ps, hr, hv⟩ := h1.look_ok keyI Tryd.underlying88 (zeroK w) RK_zero (key_of hk)
  rw [a2] at hv
  obtain rfl := RK_lit hv
  rw [hr, a1]

/-- A value that an entry may hold. -/
def GoodV (w : World) (I : Nat → Prop) (R : Value → Option (DataW Unit × List MemPlace)) (n : Nat) (v : Value) (o : Option (List Int)) : Prop := ∃ d, R v = some (d, []) ∧ ∀ k, Tie w I n (.int .i64 k, d) (k, o)
theorem GoodV.waits {w : World} {I : Nat → Prop} {n g m : Nat} {xs : List Int} (hI : I g) (hl : xs.length = n) (ho : Octets xs) (h : Own w 0 5 .u8 (.slice (some ⟨g, 0, none⟩) n m) xs) : GoodV w I RW n (.slice (some ⟨g, 0, none⟩) n m) (some xs) :=
  ⟨codeS g n m, rfl, fun _ => ⟨rfl, g, m, rfl, hl, ho, hI, h⟩⟩
theorem GoodV.kept {w : World} {I : Nat → Prop} {n g m : Nat} {xs : List Int} (hI : I g) (hl : xs.length = n) (ho : Octets xs) (h : Own w 0 5 .u8 (.slice (some ⟨g, 0, none⟩) n m) xs) : GoodV w I RK n (.agg #[.slice (some ⟨g, 0, none⟩) n m, .bool false]) (some xs) :=
  ⟨codeS g n m, rfl, fun _ => ⟨rfl, g, m, rfl, hl, ho, hI, h⟩⟩
theorem GoodV.torn {w : World} {I : Nat → Prop} {n : Nat} : GoodV w I RK n (.agg #[.slice none 0 0, .bool true]) none :=
  ⟨.lit (.bool true), rfl, fun _ => ⟨rfl, rfl⟩⟩

theorem MapAt.store {R : Value → Option (DataW Unit × List MemPlace)} {t e : TypeId} (ht : Tryd.prog.underlying t = some (.map 3 e)) (h : MapAt w I R b n l) (hu : Up l) (hm : l.length < 1000000000) (k : Int) (hk : -9223372036854775808 ≤ k ∧ k ≤ 9223372036854775807) (v : Value) (o : Option (List Int)) (hv : GoodV w I R n v o) :
    ∃ w', (Instr.mapUpdate t (.map (some b)) (.int .i64 k) v).run Tryd.prog w = .ok () w' ∧ MapAt w' I R b n (putS l k o) ∧ w.mapTurned w' b := by
  have h' := h
  obtain ⟨es, h1, h2⟩ := h
  obtain ⟨d, hd, htie⟩ := hv
  obtain ⟨w', hr, ho, ht'⟩ := h1.store keyI ht (len_ok hm) (key_of hk) hd
  have tn : TurnsIn (fun x => x = b) w w' := TurnsIn.ofGrown (row := some b) ht'.grown fun x hx => (Option.some.inj hx).symm
  refine ⟨w', hr, MapAt.of ho ?_, ht'⟩
  exact (h2.put hu k d o (htie k)).out tn (fun x hx _ cs f => row_not_map h' x hx cs f)
end
end Go.Proofs.YtpnodocjpedcmaaDoor.Sec

namespace Go.Proofs.YtpnodocjpedcmaaDoor.Sec
open Go.ChangeShapes Go.WideShapes Go.ChangeAt Go.RowKit Go.Proofs.YtpnodocjpedcmaaDoor.Kit Go.Maps

/-- A device. -/
structure Dv where
  size : Nat
  count : Nat
  kept : Sl
  waits : Sl
  off : Bool
  offs : Int
  fuse : Int
  wr : Int
structure Dv.Ok (s : Dv) : Prop where
  s1 : 128 ≤ s.size
  s2 : s.size ≤ 4096
  c1 : 1 ≤ s.count
  c2 : s.count ≤ 1048576
  ku : Up s.kept
  wu : Up s.waits
  kr : ∀ p ∈ s.kept, 0 ≤ p.1 ∧ p.1 < s.count
  wr_ : ∀ p ∈ s.waits, 0 ≤ p.1 ∧ p.1 < s.count
  wn : ∀ p ∈ s.waits, p.2 ≠ none
  f1 : -1 ≤ s.fuse
  f2 : s.fuse ≤ 9223372036854775807
  o1 : 0 ≤ s.offs
  w1 : 0 ≤ s.wr
def Dv.cells (s : Dv) (mk mw : Nat) : Array Value :=
  #[.int .i64 s.size, .int .i64 s.count, .map (some mk), .map (some mw), .bool s.off, .int .i64 s.offs, .int .i64 s.fuse, .int .u64 s.wr]
/-- A device lies in memory: itself in a, what is kept in mk, what waits in mw; its rows of bytes lie in blocks of I. -/
structure DvAt (w : World) (I : Nat → Prop) (a mk mw : Nat) (s : Dv) : Prop where
  blk : Block w a 91 (s.cells mk mw)
  k : MapAt w I RK mk s.size s.kept
  wt : MapAt w I RW mw s.size s.waits
  ne : mk ≠ mw
  ok : s.Ok
/-- A device's blocks. -/
def DSet (a mk mw b : Nat) : Prop := b = a ∨ b = mk ∨ b = mw

section
variable {w w' : World} {I J : Nat → Prop} {a mk mw : Nat} {s : Dv}
theorem DvAt.lt (h : DvAt w I a mk mw s) : a < w.heap.size ∧ mk < w.heap.size ∧ mw < w.heap.size := ⟨h.blk.lt, h.k.lt, h.wt.lt⟩
theorem DvAt.mono (h : DvAt w I a mk mw s) (hJ : ∀ g, g < w.heap.size → I g → J g) : DvAt w J a mk mw s := ⟨h.blk, h.k.mono hJ, h.wt.mono hJ, h.ne, h.ok⟩
theorem DvAt.no_row (h : DvAt w I a mk mw s) : ∀ b, DSet a mk mw b → ∀ cs f, w.heap[b]? ≠ some (.cells cs 5 f) := by
  rintro b (rfl | rfl | rfl) cs f
  · intro e
    have := h.blk
    unfold Block at this
    rw [this] at e
    injection e with e
    injection e with _ e _
    exact absurd e (by decide)
  · exact h.k.no_row _ _ _
  · exact h.wt.no_row _ _ _
theorem DvAt.ne_k (h : DvAt w I a mk mw s) : a ≠ mk := by
  rintro rfl
  exact h.k.no_row _ _ _ h.blk
theorem DvAt.ne_w (h : DvAt w I a mk mw s) : a ≠ mw := by
  rintro rfl
  exact h.wt.no_row _ _ _ h.blk
/-- It stays while other blocks turn. -/
theorem DvAt.out {S : Nat → Prop} (h : DvAt w I a mk mw s) (t : TurnsIn S w w') (h1 : ¬ S a) (h2 : ¬ S mk) (h3 : ¬ S mw) (hS : ∀ b, S b → I b → ∀ cs f, w.heap[b]? ≠ some (.cells cs 5 f)) : DvAt w' I a mk mw s :=
  ⟨h.blk.out t h1, h.k.out t h2 hS, h.wt.out t h3 hS, h.ne, h.ok⟩
theorem DvAt.below (h : DvAt w I a mk mw s) (hb : Below w.heap.size w w') : DvAt w' I a mk mw s :=
  h.out (S := fun _ => False) (.ofNew hb) id id id fun _ hf => hf.elim
theorem DvAt.alloc (h : DvAt w I a mk mw s) (o : Obj) : DvAt (w.alloc o) I a mk mw s := h.below ((Below.refl _ _).alloc (Nat.le_refl _) _)
/-- A field is stored. -/
theorem DvAt.field (h : DvAt w I a mk mw s) (i : Nat) (u : Value) (s' : Dv) (hc : (s.cells mk mw).setIfInBounds i u = s'.cells mk mw) (hk : s'.kept = s.kept) (hw : s'.waits = s.waits) (hs : s'.size = s.size) (ok : s'.Ok) :
    DvAt (w.setCell ⟨a, i, none⟩ u) I a mk mw s' ∧ TurnsIn (DSet a mk mw) w (w.setCell ⟨a, i, none⟩ u) := by
  have t : TurnsIn (fun b => b = a) w (w.setCell ⟨a, i, none⟩ u) := TurnsIn.setCell (S := fun b => b = a) (p := ⟨a, i, none⟩) (TurnsIn.refl _ w) (Or.inl rfl) u
  have hr : ∀ b, b = a → I b → ∀ cs f, w.heap[b]? ≠ some (.cells cs 5 f) := fun b hb _ => h.no_row b (Or.inl hb)
  refine ⟨⟨by rw [← hc]; exact h.blk.set_ i u, ?_, ?_, h.ne, ok⟩, t.mono fun b _ hb => Or.inl hb⟩
  · rw [hk, hs]; exact h.k.out t (fun e => h.ne_k e.symm) hr
  · rw [hw, hs]; exact h.wt.out t (fun e => h.ne_w e.symm) hr
/-- The cells, to be read. -/
theorem DvAt.reads (h : DvAt w I a mk mw s) :
    w.cell? ⟨a, 0, none⟩ = some (.int .i64 s.size) ∧ w.cell? ⟨a, 1, none⟩ = some (.int .i64 s.count) ∧ w.cell? ⟨a, 2, none⟩ = some (.map (some mk)) ∧ w.cell? ⟨a, 3, none⟩ = some (.map (some mw)) ∧ w.cell? ⟨a, 4, none⟩ = some (.bool s.off) ∧ w.cell? ⟨a, 5, none⟩ = some (.int .i64 s.offs) ∧ w.cell? ⟨a, 6, none⟩ = some (.int .i64 s.fuse) ∧ w.cell? ⟨a, 7, none⟩ = some (.int .u64 s.wr) :=
  ⟨h.blk.cell 0, h.blk.cell 1, h.blk.cell 2, h.blk.cell 3, h.blk.cell 4, h.blk.cell 5, h.blk.cell 6, h.blk.cell 7⟩
theorem DvAt.free (h : DvAt w I a mk mw s) (i : Nat) : w.frozen? ⟨a, i, none⟩ = false := h.blk.frozen i
end

/-! ### methods that read -/
theorem size_any (I : Nat → Prop) (a mk mw : Nat) (s : Dv) (w : World) (h : DvAt w I a mk mw s) : Calls Tryd.prog 57 #[.pointer (some ⟨a, 0, none⟩)] w fun e w' => e = .returned (.int .i64 s.size) ∧ w = w' := by
  obtain ⟨c0, c1, c2, c3, c4, c5, c6, c7⟩ := h.reads
  clear h
  go_enter Tryd.func57, Tryd.ntmps57
  go_wp2
  go_ret
  exact ⟨rfl, rfl⟩
theorem count_any (I : Nat → Prop) (a mk mw : Nat) (s : Dv) (w : World) (h : DvAt w I a mk mw s) : Calls Tryd.prog 58 #[.pointer (some ⟨a, 0, none⟩)] w fun e w' => e = .returned (.int .i64 s.count) ∧ w = w' := by
  obtain ⟨c0, c1, c2, c3, c4, c5, c6, c7⟩ := h.reads
  clear h
  go_enter Tryd.func58, Tryd.ntmps58
  go_wp2
  go_ret
  exact ⟨rfl, rfl⟩
theorem isOn_any (I : Nat → Prop) (a mk mw : Nat) (s : Dv) (w : World) (h : DvAt w I a mk mw s) : Calls Tryd.prog 41 #[.pointer (some ⟨a, 0, none⟩)] w fun e w' => e = .returned (.bool (!s.off)) ∧ w = w' := by
  obtain ⟨c0, c1, c2, c3, c4, c5, c6, c7⟩ := h.reads
  clear h
  go_enter Tryd.func41, Tryd.ntmps41
  go_wp2
  go_ret
  exact ⟨rfl, rfl⟩
theorem writes_any (I : Nat → Prop) (a mk mw : Nat) (s : Dv) (w : World) (h : DvAt w I a mk mw s) : Calls Tryd.prog 32 #[.pointer (some ⟨a, 0, none⟩)] w fun e w' => e = .returned (.int .u64 s.wr) ∧ w = w' := by
  obtain ⟨c0, c1, c2, c3, c4, c5, c6, c7⟩ := h.reads
  clear h
  go_enter Tryd.func32, Tryd.ntmps32
  go_wp2
  go_ret
  exact ⟨rfl, rfl⟩
theorem MapAt.len {w : World} {I : Nat → Prop} {R : Value → Option (DataW Unit × List MemPlace)} {b n : Nat} {l : Sl} {t e : TypeId} (ht : Tryd.prog.underlying t = some (.map 3 e)) (h : MapAt w I R b n l) (ty : TypeId) : (Builtin.len_ #[t] ty #[.map (some b)]).run Tryd.prog w = .ok (.int .i64 l.length) w := by
  obtain ⟨es, h1, h2⟩ := h
  rw [h1.len ht ty, ← h2.length]
  rfl
theorem waits_any (I : Nat → Prop) (a mk mw : Nat) (s : Dv) (w : World) (h : DvAt w I a mk mw s) : Calls Tryd.prog 31 #[.pointer (some ⟨a, 0, none⟩)] w fun e w' => e = .returned (.int .i64 s.waits.length) ∧ w = w' := by
  obtain ⟨c0, c1, c2, c3, c4, c5, c6, c7⟩ := h.reads
  have hl := fun ty => h.wt.len Tryd.underlying89 ty
  clear h
  go_enter Tryd.func31, Tryd.ntmps31
  go_wp2
  go_ret
  exact ⟨rfl, rfl⟩
end Go.Proofs.YtpnodocjpedcmaaDoor.Sec

namespace Go.Proofs.YtpnodocjpedcmaaDoor.Sec
open Go.ChangeShapes Go.WideShapes Go.ChangeAt Go.RowKit Go.Proofs.YtpnodocjpedcmaaDoor.Kit Go.Maps

/-- It goes off. -/
def Dv.down (s : Dv) : Dv := if s.off = true then s else { s with off := true, offs := s.offs + 1 }
/-- A call counted of the fuse. -/
def Dv.tick (s : Dv) : Dv := if s.fuse = -1 then s else if s.fuse = 0 then s.down else { s with fuse := s.fuse - 1 }
def Dv.blown (s : Dv) : Bool := decide (s.fuse = 0)
def Dv.fused (s : Dv) (n : Int) : Dv := { s with fuse := max n 0 }
theorem Dv.Ok.down {s : Dv} (h : s.Ok) : s.down.Ok := by
  unfold Dv.down
  split
  · exact h
  · exact ⟨h.s1, h.s2, h.c1, h.c2, h.ku, h.wu, h.kr, h.wr_, h.wn, h.f1, h.f2, by have := h.o1; show 0 ≤ s.offs + 1; omega, h.w1⟩
/-- What a step leaves of a device: it lies where it lay, and only its own blocks have turned. -/
def Leaves (I : Nat → Prop) (a mk mw : Nat) (w : World) (s' : Dv) (v : Value) (e : Ending) (w' : World) : Prop :=
  e = .returned v ∧ DvAt w' I a mk mw s' ∧ TurnsIn (DSet a mk mw) w w'

set_option maxHeartbeats 1600000 in
theorem off_any (I : Nat → Prop) (a mk mw : Nat) (s : Dv) (w : World) (h : DvAt w I a mk mw s) (hb : s.offs ≤ 1000000000) :
    Calls Tryd.prog 20 #[.pointer (some ⟨a, 0, none⟩)] w (Leaves I a mk mw w s.down (.tuple #[])) := by
  have GI := Lib.hid (isOn_any I a mk mw s w h)
  have ho := h.ok.o1
  have hh := h.ok
  unfold Dv.down
  cases hoff : s.off with
  | true =>
    rw [if_pos rfl]
    rw [hoff] at GI
    clear ho hh hb
    go_enter Tryd.func20, Tryd.ntmps20
    go_wp2_with (go_at_call 41; (with_reducible refine GI.out.mono ?_); rintro e w1 ⟨rfl, rfl⟩)
    exact bodyPost_end (results_none rfl _ _ _) rfl ⟨rfl, h, TurnsIn.refl _ _⟩
  | false =>
    rw [if_neg (by decide)]
    rw [hoff] at GI
    have H1 := h.field 4 (.bool true) { s with off := true } rfl rfl rfl rfl ⟨hh.s1, hh.s2, hh.c1, hh.c2, hh.ku, hh.wu, hh.kr, hh.wr_, hh.wn, hh.f1, hh.f2, hh.o1, hh.w1⟩
    obtain ⟨D1, T1⟩ := H1
    have H2 := D1.field 5 (.int .i64 (s.offs + 1)) { s with off := true, offs := s.offs + 1 } rfl rfl rfl rfl ⟨hh.s1, hh.s2, hh.c1, hh.c2, hh.ku, hh.wu, hh.kr, hh.wr_, hh.wn, hh.f1, hh.f2, by show 0 ≤ s.offs + 1; omega, hh.w1⟩
    obtain ⟨D2, T2⟩ := H2
    obtain ⟨c0, c1, c2, c3, c4, c5, c6, c7⟩ := h.reads
    obtain ⟨d0, d1, d2, d3, d4, d5, d6, d7⟩ := D1.reads
    have f4 := h.free 4
    have f5 := D1.free 5
    have HD := Lib.hid D2
    have HT := Lib.hid (T1.trans T2)
    simp only at d0 d1 d2 d3 d4 d5 d6 d7
    clear hh h D1 T1 D2 T2 hoff
    go_enter Tryd.func20, Tryd.ntmps20
    go_wp2_with (go_at_call 41; (with_reducible refine GI.out.mono ?_); rintro e w1 ⟨rfl, rfl⟩)
    exact bodyPost_end (results_none rfl _ _ _) rfl ⟨rfl, HD.out, HT.out⟩

set_option maxHeartbeats 1600000 in
theorem fuse_any (I : Nat → Prop) (a mk mw : Nat) (s : Dv) (n : Int) (w : World) (h : DvAt w I a mk mw s) (hn : -9223372036854775808 ≤ n ∧ n ≤ 9223372036854775807) :
    Calls Tryd.prog 23 #[.pointer (some ⟨a, 0, none⟩), .int .i64 n] w (Leaves I a mk mw w (s.fused n) (.tuple #[])) := by
  have hh := h.ok
  unfold Dv.fused
  have H1 := h.field 6 (.int .i64 (max n 0)) { s with fuse := max n 0 } rfl rfl rfl rfl ⟨hh.s1, hh.s2, hh.c1, hh.c2, hh.ku, hh.wu, hh.kr, hh.wr_, hh.wn, by show -1 ≤ max n 0; omega, by show max n 0 ≤ _; omega, hh.o1, hh.w1⟩
  obtain ⟨D1, T1⟩ := H1
  obtain ⟨c0, c1, c2, c3, c4, c5, c6, c7⟩ := h.reads
  have f6 := h.free 6
  have HD := Lib.hid D1
  have HT := Lib.hid T1
  clear hh h D1 T1
  rcases (by omega : 0 ≤ n ∨ n < 0) with hn0 | hn0
  · rw [show max n 0 = n by omega] at HD HT ⊢
    go_enter Tryd.func23, Tryd.ntmps23
    go_wp2
    exact bodyPost_end (results_none rfl _ _ _) rfl ⟨rfl, HD.out, HT.out⟩
  · rw [show max n 0 = 0 by omega] at HD HT ⊢
    have hn1 : ¬ 0 ≤ n := by omega
    go_enter Tryd.func23, Tryd.ntmps23
    go_wp2
    exact bodyPost_end (results_none rfl _ _ _) rfl ⟨rfl, HD.out, HT.out⟩

set_option maxHeartbeats 1600000 in
theorem blows_any (I : Nat → Prop) (a mk mw : Nat) (s : Dv) (w : World) (h : DvAt w I a mk mw s) (hb : s.offs ≤ 1000000000) :
    Calls Tryd.prog 43 #[.pointer (some ⟨a, 0, none⟩)] w (Leaves I a mk mw w s.tick (.bool s.blown)) := by
  have hh := h.ok
  obtain ⟨c0, c1, c2, c3, c4, c5, c6, c7⟩ := h.reads
  have f6 := h.free 6
  unfold Dv.tick Dv.blown
  have hf1 := hh.f1
  have hf2 := hh.f2
  by_cases h1 : s.fuse = -1
  · rw [if_pos h1, decide_eq_false (by omega)]
    have HD := Lib.hid h
    rw [h1] at c6
    clear h hh h1
    go_enter Tryd.func43, Tryd.ntmps43
    go_wp2
    go_ret
    exact ⟨rfl, HD.out, TurnsIn.refl _ _⟩
  · rw [if_neg h1]
    by_cases h0 : s.fuse = 0
    · rw [if_pos h0, decide_eq_true h0]
      have GO := Lib.hid (off_any I a mk mw s w h hb)
      rw [h0] at c6
      clear h hh h1 h0 hf1 hf2
      generalize s.down = s1 at *
      go_enter Tryd.func43, Tryd.ntmps43
      go_wp2_with (go_at_call 20; (with_reducible refine GO.out.mono ?_); rintro e w1 ⟨rfl, hd, ht⟩)
      go_ret
      exact ⟨rfl, hd, ht⟩
    · rw [if_neg h0, decide_eq_false h0]
      have d1 : decide (s.fuse = -1) = false := decide_eq_false h1
      have d0 : decide (s.fuse = 0) = false := decide_eq_false h0
      have b1 : (s.fuse == -1) = false := by simpa using h1
      have b0 : (s.fuse == 0) = false := by simpa using h0
      have H1 := h.field 6 (.int .i64 (s.fuse - 1)) { s with fuse := s.fuse - 1 } rfl rfl rfl rfl ⟨hh.s1, hh.s2, hh.c1, hh.c2, hh.ku, hh.wu, hh.kr, hh.wr_, hh.wn, by show -1 ≤ s.fuse - 1; omega, by show s.fuse - 1 ≤ _; omega, hh.o1, hh.w1⟩
      obtain ⟨D1, T1⟩ := H1
      have HD := Lib.hid D1
      have HT := Lib.hid T1
      have hf3 : 0 < s.fuse := by omega
      clear hh h D1 T1 h1 h0 hf1
      generalize s.fuse = n at *
      go_enter Tryd.func43, Tryd.ntmps43
      go_wp2
      go_ret
      exact ⟨rfl, HD.out, HT.out⟩
end Go.Proofs.YtpnodocjpedcmaaDoor.Sec

namespace Go.Proofs.YtpnodocjpedcmaaDoor.Sec
open Go.ChangeShapes Go.WideShapes Go.ChangeAt Go.RowKit Go.Proofs.YtpnodocjpedcmaaDoor.Kit Go.Maps

theorem elem8 : IntElem Tryd.prog 22 5 .u8 1 := ⟨Tryd.underlying22, by kernel_rfl, by decide⟩

set_option maxRecDepth 100000 in
/-- slices.Clone of bytes that are not nil: a new row. -/
theorem clone_any (b off : Nat) (xs : List Int) (c : Nat) (w : World) (hx : xs.length ≤ 1000000000) (hr : Holds w w.heap.size .u8 (some ⟨b, off, none⟩) xs) :
    Calls Tryd.prog 42 #[.slice (some ⟨b, off, none⟩) xs.length c] w fun e w' => ∃ v, e = .returned v ∧ Own w' w.heap.size 5 .u8 v xs ∧ Below w.heap.size w w' := by
  have own0 : Own (w.alloc (.cells #[] 5)) w.heap.size 5 .u8 (.slice (some ⟨w.heap.size, 0, none⟩) 0 0) [] := Own.empty w 5 .u8 (Nat.le_refl _)
  have B0 : Below w.heap.size w (w.alloc (.cells #[] 5)) := (Below.refl _ _).alloc (Nat.le_refl _) _
  have hr0 := hr.below B0
  have q := fun W => Lib.run_eql_slice_nil (P := Tryd.prog) W 22 5 (some ⟨b, off, none⟩) xs.length c 0 0 Tryd.underlying22
  clear hr
  go_enter Tryd.func42, Tryd.ntmps42
  go_wp2_with (at_builtin; refine wpList_append_ints (ys := xs) _ rfl _ _ 22 rfl elem8 own0 rfl rfl hr0 (by simp; omega) B0.size ?_; intro v7 w7 own7 g7 hb7 _)
  go_ret
  exact ⟨_, rfl, own7, B0.trans hb7⟩

def Dv.new (size count : Nat) : Dv := ⟨size, count, [], [], false, 0, -1, 0⟩
theorem Dv.new_ok {size count : Nat} (h1 : 128 ≤ size) (h2 : size ≤ 4096) (h3 : 1 ≤ count) (h4 : count ≤ 1048576) : (Dv.new size count).Ok :=
  ⟨h1, h2, h3, h4, up_nil, up_nil, fun _ h => (List.not_mem_nil h).elim, fun _ h => (List.not_mem_nil h).elim, fun _ h => (List.not_mem_nil h).elim, Int.le_refl _, by show (-1 : Int) ≤ _; omega, Int.le_refl _, Int.le_refl _⟩
/-- A device that is new. -/
def NewDev (I : Nat → Prop) (s : Dv) (w : World) (e : Ending) (w' : World) : Prop :=
  ∃ a mk mw, e = .returned (.tuple #[.pointer (some ⟨a, 0, none⟩), .int .i64 0]) ∧ DvAt w' I a mk mw s ∧ Below w.heap.size w w' ∧ w.heap.size ≤ a ∧ w.heap.size ≤ mk ∧ w.heap.size ≤ mw

set_option maxHeartbeats 1600000 in
theorem new_any (I : Nat → Prop) (size count : Nat) (w : World) (h1 : 128 ≤ size) (h2 : size ≤ 4096) (h3 : 1 ≤ count) (h4 : count ≤ 1048576) :
    Calls Tryd.prog 10 #[.int .i64 size, .int .i64 count] w (NewDev I (Dv.new size count) w) := by
  have hmm := fun W t => @run_makeMap Tryd.prog W t
  go_enter Tryd.func10, Tryd.ntmps10
  go_wp2
  go_ret2
  have K1 : MapAt (w.alloc (.map #[] 0)) I RK w.heap.size size [] := MapAt.made w I RK size
  have B1 : Below w.heap.size w (w.alloc (.map #[] 0)) := (Below.refl _ _).alloc (Nat.le_refl _) _
  have z1 : (w.alloc (.map #[] 0)).heap.size = w.heap.size + 1 := by simp
  have W2 : MapAt ((w.alloc (.map #[] 0)).alloc (.map #[] 0)) I RW (w.heap.size + 1) size [] := by
    have := MapAt.made (w.alloc (.map #[] 0)) I RW size
    rw [z1] at this
    exact this
  have T2 : TurnsIn (fun _ => False) (w.alloc (.map #[] 0)) ((w.alloc (.map #[] 0)).alloc (.map #[] 0)) := (TurnsIn.refl _ _).alloc _
  have K2 := K1.out T2 id (fun _ h => h.elim)
  have z2 : ((w.alloc (.map #[] 0)).alloc (.map #[] 0)).heap.size = w.heap.size + 1 + 1 := by simp
  have B2 := B1.alloc B1.size (.map #[] 0)
  have T3 : TurnsIn (fun _ => False) ((w.alloc (.map #[] 0)).alloc (.map #[] 0)) (((w.alloc (.map #[] 0)).alloc (.map #[] 0)).alloc (.cells ((Dv.new size count).cells w.heap.size (w.heap.size + 1)) 91)) := (TurnsIn.refl _ _).alloc _
  have D3 : Block (((w.alloc (.map #[] 0)).alloc (.map #[] 0)).alloc (.cells ((Dv.new size count).cells w.heap.size (w.heap.size + 1)) 91)) (w.heap.size + 1 + 1) 91 ((Dv.new size count).cells w.heap.size (w.heap.size + 1)) := by
    have := Block.new ((w.alloc (.map #[] 0)).alloc (.map #[] 0)) 91 ((Dv.new size count).cells w.heap.size (w.heap.size + 1))
    rw [z2] at this
    exact this
  exact ⟨_, _, _, rfl, ⟨D3, K2.out T3 id (fun _ h => h.elim), W2.out T3 id (fun _ h => h.elim), by omega, Dv.new_ok h1 h2 h3 h4⟩, B2.alloc B2.size _, by omega, by omega, by omega⟩
end Go.Proofs.YtpnodocjpedcmaaDoor.Sec

namespace Go.Proofs.YtpnodocjpedcmaaDoor.Sec
open Go.ChangeShapes Go.WideShapes Go.ChangeAt Go.RowKit Go.Proofs.YtpnodocjpedcmaaDoor.Kit Go.Maps

/-- What a read gives: bytes, and the error's number. -/
def Dv.read (s : Dv) (i : Int) : List Int × Int :=
  if s.off = true then ([], 8) else if i < 0 ∨ (s.count : Int) ≤ i then ([], 5) else
  match getS s.waits i with
  | some (some xs) => (xs, 0)
  | _ => match getS s.kept i with
    | none => (List.replicate s.size 0, 0)
    | some none => ([], 7)
    | some (some xs) => (xs, 0)
def GivesB (zs : List Int) (E : Int) (w : World) (e : Ending) (w' : World) : Prop :=
  ∃ v, e = .returned (.tuple #[v, .int .i64 E]) ∧ Own w' w.heap.size 5 .u8 v zs ∧ Below w.heap.size w w'
theorem mem_getS {l : Sl} {k : Int} {o : Option (List Int)} (h : getS l k = some o) : (k, o) ∈ l := by
  induction l with
  | nil => cases h
  | cons q r ih =>
    obtain ⟨j, u⟩ := q
    unfold getS at h
    split at h
    · rename_i hj
      injection h with h
      subst hj h
      simp
    · exact List.mem_cons_of_mem _ (ih h)

set_option maxRecDepth 100000 in
set_option maxHeartbeats 3200000 in
theorem read_any (I : Nat → Prop) (a mk mw : Nat) (s : Dv) (i : Int) (w : World) (h : DvAt w I a mk mw s) (hi : -9223372036854775808 ≤ i ∧ i ≤ 9223372036854775807) :
    Calls Tryd.prog 77 #[.pointer (some ⟨a, 0, none⟩), .int .i64 i] w (GivesB (s.read i).1 (s.read i).2 w) := by
  have GI := Lib.hid (isOn_any I a mk mw s w h)
  have B0 := Below.refl w.heap.size w
  have nil_ : ∀ E, GivesB [] E w (.returned (.tuple #[.slice none 0 0, .int .i64 E])) w := fun E => ⟨_, rfl, Own.nil w w.heap.size 5 .u8, B0⟩
  have HN := Lib.hid nil_
  clear nil_
  obtain ⟨c0, c1, c2, c3, c4, c5, c6, c7⟩ := h.reads
  have hs1 := h.ok.s1
  have hs2 := h.ok.s2
  have hc2 := h.ok.c2
  unfold Dv.read
  cases hoff : s.off with
  | true =>
    rw [if_pos rfl]
    rw [hoff] at GI
    clear h
    go_enter Tryd.func77, Tryd.ntmps77
    go_wp2_with (go_at_call 41; (with_reducible refine GI.out.mono ?_); rintro e w1 ⟨rfl, rfl⟩)
    go_ret2
    exact HN.out 8
  | false =>
    rw [if_neg (by decide)]
    rw [hoff] at GI
    by_cases hlo : i < 0
    · rw [if_pos (Or.inl hlo)]
      have d1 : decide (i < 0) = true := decide_eq_true hlo
      clear h
      go_enter Tryd.func77, Tryd.ntmps77
      go_wp2_with (go_at_call 41; (with_reducible refine GI.out.mono ?_); rintro e w1 ⟨rfl, rfl⟩)
      go_ret2
      exact HN.out 5
    · have d1 : decide (i < 0) = false := decide_eq_false hlo
      by_cases hhi : (s.count : Int) ≤ i
      · rw [if_pos (Or.inr hhi)]
        have d2 : decide ((s.count : Int) ≤ i) = true := decide_eq_true hhi
        clear h
        go_enter Tryd.func77, Tryd.ntmps77
        go_wp2_with (go_at_call 41; (with_reducible refine GI.out.mono ?_); rintro e w1 ⟨rfl, rfl⟩)
        go_ret2
        exact HN.out 5
      · have d2 : decide ((s.count : Int) ≤ i) = false := decide_eq_false hhi
        rw [if_neg (by omega)]
        cases hgw : getS s.waits i with
        | some o =>
          cases o with
          | none => exact absurd rfl (h.ok.wn _ (mem_getS hgw))
          | some xs =>
            obtain ⟨g, m, hr, hxl, _, _, own⟩ := h.wt.look_yes i hi xs hgw true
            obtain ⟨A, c, he, _, _, hh⟩ := own.opened
            injection he with he1 he2 he3
            subst he1 he3
            have GC := clone_any g 0 xs m w (by omega) hh
            rw [hxl] at GC
            replace GC := Lib.hid GC
            simp only [if_true] at hr
            clear h hgw own hh he2 hxl
            go_enter Tryd.func77, Tryd.ntmps77
            go_wp2_with (first
              | (go_at_call 41; (with_reducible refine GI.out.mono ?_); rintro e w1 ⟨rfl, rfl⟩)
              | (go_at_call 42; (with_reducible refine GC.out.mono ?_); rintro e w1 ⟨v, rfl, own, hb⟩))
            go_ret2
            exact ⟨v, rfl, own, hb⟩
        | none =>
          have hrw := h.wt.look_no i hi hgw
          cases hgk : getS s.kept i with
          | none =>
            have hrk := h.k.kept_no i hi hgk
            have e0 := (h.alloc (.cells #[.slice none 0 0, .bool false] 103)).reads.1
            have B1 : Below w.heap.size w (w.alloc (.cells #[.slice none 0 0, .bool false] 103)) := (Below.refl _ _).alloc (Nat.le_refl _) _
            clear h hgw hgk
            go_enter Tryd.func77, Tryd.ntmps77
            go_wp2_with (first
              | (go_at_call 41; (with_reducible refine GI.out.mono ?_); rintro e w1 ⟨rfl, rfl⟩)
              | (refine wpList_make_ints _ rfl _ _ _ rfl elem8 s.size s.size rfl rfl rfl rfl (Nat.le_refl _) (by omega) ?_; intro w5 own5 hb5 hl5))
            go_ret2
            have o6 := own5.mono B1.size
            rw [show (w.alloc (.cells #[.slice none 0 0, .bool false] 103)).heap.size = w.heap.size + 1 by simp] at o6
            exact ⟨_, rfl, o6, B1.trans (hb5.mono B1.size)⟩
          | some o =>
            cases o with
            | none =>
              have hrk := h.k.kept_torn i hi hgk
              clear h hgw hgk
              go_enter Tryd.func77, Tryd.ntmps77
              go_wp2_with (go_at_call 41; (with_reducible refine GI.out.mono ?_); rintro e w1 ⟨rfl, rfl⟩)
              go_ret2
              exact ⟨_, rfl, Own.nil _ w.heap.size 5 .u8, (Below.refl _ _).alloc (Nat.le_refl _) _⟩
            | some xs =>
              obtain ⟨g, m, hrk, hxl, _, _, own⟩ := h.k.kept_yes i hi xs hgk
              have B1 : Below w.heap.size w (w.alloc (.cells #[.slice (some ⟨g, 0, none⟩) s.size m, .bool false] 103)) := (Below.refl _ _).alloc (Nat.le_refl _) _
              obtain ⟨A, c, he, _, _, hh⟩ := own.opened
              injection he with he1 he2 he3
              subst he1 he3
              have GC := Lib.hid (fun W (hB : Below w.heap.size w W) => clone_any g 0 xs m W (by omega) ((hh.below hB).more hB.size))
              rw [hxl] at GC
              clear h hgw hgk own hh he2 hxl
              go_enter Tryd.func77, Tryd.ntmps77
              go_wp2_with (first
                | (go_at_call 41; (with_reducible refine GI.out.mono ?_); rintro e w1 ⟨rfl, rfl⟩)
                | (go_at_call 42; (with_reducible refine (GC.out _ B1).mono ?_); rintro e w1 ⟨v, rfl, own, hb⟩))
              go_ret2
              exact ⟨v, rfl, own.mono B1.size, B1.trans (hb.mono B1.size)⟩
end Go.Proofs.YtpnodocjpedcmaaDoor.Sec

namespace Go.Proofs.YtpnodocjpedcmaaDoor.Sec
open Go.ChangeShapes Go.WideShapes Go.ChangeAt Go.RowKit Go.Proofs.YtpnodocjpedcmaaDoor.Kit Go.Maps

/-- What a write leaves, and the error's number. -/
def Dv.writes (s : Dv) (i : Int) (xs : List Int) : Dv := { s with waits := putS s.waits i (some xs) }
def Dv.write (s : Dv) (i : Int) (xs : List Int) : Int × Dv :=
  if s.off = true then (8, s) else if i < 0 ∨ (s.count : Int) ≤ i then (5, s) else if xs.length ≠ s.size then (3, s) else
  if s.fuse = 0 then (8, (s.writes i xs).tick) else (0, { (s.writes i xs).tick with wr := s.wr + 1 })
theorem Dv.Ok.writes {s : Dv} (h : s.Ok) {i : Int} {xs : List Int} (h0 : 0 ≤ i) (h1 : i < s.count) : (s.writes i xs).Ok := by
  refine ⟨h.s1, h.s2, h.c1, h.c2, h.ku, h.wu.putS i (some xs), h.kr, fun p hp => ?_, fun p hp => ?_, h.f1, h.f2, h.o1, h.w1⟩
  · rcases mem_putS hp with rfl | hp
    · exact ⟨h0, h1⟩
    · exact h.wr_ p hp
  · rcases mem_putS hp with rfl | hp
    · exact fun e => by cases e
    · exact h.wn p hp
theorem Dv.Ok.tick {s : Dv} (h : s.Ok) : s.tick.Ok := by
  unfold Dv.tick
  split
  · exact h
  · split
    · exact h.down
    · exact ⟨h.s1, h.s2, h.c1, h.c2, h.ku, h.wu, h.kr, h.wr_, h.wn, by have := h.f1; show -1 ≤ s.fuse - 1; omega, by have := h.f2; show s.fuse - 1 ≤ _; omega, h.o1, h.w1⟩
theorem Dv.tick_wr (s : Dv) : s.tick.wr = s.wr := by
  unfold Dv.tick Dv.down
  split
  · rfl
  · split
    · split <;> rfl
    · rfl
theorem waits_few {s : Dv} (h : s.Ok) : s.waits.length < 1000000000 := by
  have := up_length s.waits 0 h.wu h.wr_
  have := h.c2
  omega
theorem kept_few {s : Dv} (h : s.Ok) : s.kept.length < 1000000000 := by
  have := up_length s.kept 0 h.ku h.kr
  have := h.c2
  omega
/-- A sector is put to wait. -/
theorem DvAt.wait {w w' : World} {I : Nat → Prop} {a mk mw : Nat} {s : Dv} (h : DvAt w I a mk mw s) {i : Int} {xs : List Int} (h0 : 0 ≤ i) (h1 : i < s.count) (hm : MapAt w' I RW mw s.size (putS s.waits i (some xs))) (t : w.mapTurned w' mw) :
    DvAt w' I a mk mw (s.writes i xs) ∧ TurnsIn (DSet a mk mw) w w' := by
  have tn : TurnsIn (fun x => x = mw) w w' := TurnsIn.ofGrown (row := some mw) t.grown fun x hx => (Option.some.inj hx).symm
  have hr : ∀ b, b = mw → I b → ∀ cs f, w.heap[b]? ≠ some (.cells cs 5 f) := fun b hb _ => h.no_row b (Or.inr (Or.inr hb))
  exact ⟨⟨h.blk.out tn h.ne_w, h.k.out tn h.ne hr, hm, h.ne, h.ok.writes h0 h1⟩, tn.mono fun b _ hb => Or.inr (Or.inr hb)⟩

set_option maxRecDepth 100000 in
set_option maxHeartbeats 3200000 in
theorem write_any (I : Nat → Prop) (a mk mw : Nat) (s : Dv) (i : Int) (A : Option Addr) (xs : List Int) (c : Nat) (w : World) (h : DvAt w I a mk mw s) (hI : ∀ g, w.heap.size ≤ g → I g) (hi : -9223372036854775808 ≤ i ∧ i ≤ 9223372036854775807)
    (hx : xs.length ≤ 1000000000) (ho : Octets xs) (hr : Holds w w.heap.size .u8 A xs) (hof : s.offs ≤ 1000000000) (hwr : s.wr ≤ 1000000000) :
    Calls Tryd.prog 12 #[.pointer (some ⟨a, 0, none⟩), .int .i64 i, .slice A xs.length c] w (Leaves I a mk mw w (s.write i xs).2 (.int .i64 (s.write i xs).1)) := by
  have GI := Lib.hid (isOn_any I a mk mw s w h)
  have HSame : ∀ E, Leaves I a mk mw w s (.int .i64 E) (.returned (.int .i64 E)) w := fun E => ⟨rfl, h, TurnsIn.refl _ _⟩
  have HN := Lib.hid HSame
  clear HSame
  obtain ⟨c0, c1, c2, c3, c4, c5, c6, c7⟩ := h.reads
  have hs1 := h.ok.s1
  have hs2 := h.ok.s2
  have hc2 := h.ok.c2
  unfold Dv.write
  cases hoff : s.off with
  | true =>
    rw [if_pos rfl]
    rw [hoff] at GI
    clear h
    go_enter Tryd.func12, Tryd.ntmps12
    go_wp2_with (go_at_call 41; (with_reducible refine GI.out.mono ?_); rintro e w1 ⟨rfl, rfl⟩)
    go_ret
    exact HN.out 8
  | false =>
    rw [if_neg (by decide)]
    rw [hoff] at GI
    by_cases hlo : i < 0
    · rw [if_pos (Or.inl hlo)]
      have d1 : decide (i < 0) = true := decide_eq_true hlo
      clear h
      go_enter Tryd.func12, Tryd.ntmps12
      go_wp2_with (go_at_call 41; (with_reducible refine GI.out.mono ?_); rintro e w1 ⟨rfl, rfl⟩)
      go_ret
      exact HN.out 5
    · have d1 : decide (i < 0) = false := decide_eq_false hlo
      by_cases hhi : (s.count : Int) ≤ i
      · rw [if_pos (Or.inr hhi)]
        have d2 : decide ((s.count : Int) ≤ i) = true := decide_eq_true hhi
        clear h
        go_enter Tryd.func12, Tryd.ntmps12
        go_wp2_with (go_at_call 41; (with_reducible refine GI.out.mono ?_); rintro e w1 ⟨rfl, rfl⟩)
        go_ret
        exact HN.out 5
      · have d2 : decide ((s.count : Int) ≤ i) = false := decide_eq_false hhi
        rw [if_neg (by omega)]
        by_cases hlen : xs.length = s.size
        · rw [if_neg (fun e => e hlen)]
          obtain ⟨b, off, rfl, hb, hc⟩ := hr (by omega)
          have GC := Lib.hid (fun W (hB : Below w.heap.size w W) => clone_any b off xs c W hx ((hr.below hB).more hB.size))
          have hStore : ∀ W v, Below w.heap.size w W → Own W w.heap.size 5 .u8 v xs → ∃ W', (Instr.mapUpdate 89 (.map (some mw)) (.int .i64 i) v).run Tryd.prog W = .ok () W' ∧ DvAt W' I a mk mw (s.writes i xs) ∧ TurnsIn (DSet a mk mw) w W' := by
            intro W v hB own
            obtain ⟨g, cap, rfl, hg, hg2, _⟩ := own.form (by omega)
            have D := h.below hB
            rw [hlen] at own ⊢
            obtain ⟨W', h1, h2, h3⟩ := D.wt.store Tryd.underlying89 h.ok.wu (waits_few h.ok) i hi _ (some xs) (GoodV.waits (hI g hg) hlen ho (own.mono (Nat.zero_le _)))
            obtain ⟨D2, T2⟩ := D.wait (by omega) (by omega) h2 h3
            exact ⟨W', h1, D2, (TurnsIn.ofNew hB).trans T2⟩
          obtain ⟨F, hF⟩ : ∃ F : World → Value → World, ∀ W v, Below w.heap.size w W → Own W w.heap.size 5 .u8 v xs → (Instr.mapUpdate 89 (.map (some mw)) (.int .i64 i) v).run Tryd.prog W = .ok () (F W v) ∧ DvAt (F W v) I a mk mw (s.writes i xs) ∧ TurnsIn (DSet a mk mw) w (F W v) :=
            ⟨fun W v => @Classical.epsilon World ⟨w⟩ (fun W' => (Instr.mapUpdate 89 (.map (some mw)) (.int .i64 i) v).run Tryd.prog W = .ok () W' ∧ DvAt W' I a mk mw (s.writes i xs) ∧ TurnsIn (DSet a mk mw) w W'), fun W v hB own => Classical.epsilon_spec (hStore W v hB own)⟩
          have HStore := Lib.hid hF
          clear hF
          have B0 := Below.refl w.heap.size w
          obtain ⟨R, hR⟩ : ∃ R : Int × Dv, (if s.fuse = 0 then (8, (s.writes i xs).tick) else (0, { (s.writes i xs).tick with wr := s.wr + 1 })) = R := ⟨_, rfl⟩
          rw [hR]
          have HR := Lib.hid hR
          clear hR
          have b1 : ((xs.length : Int) != (s.size : Int)) = false := by rw [hlen]; simp
          have b2 : ((xs.length : Int) == (s.size : Int)) = true := by rw [hlen]; simp
          have HLen := Lib.hid hlen
          have HD := Lib.hid h
          have hal := h.lt.1
          clear hStore h hlen hr
          go_enter Tryd.func12, Tryd.ntmps12
          go_wp2_with (go_at_call 41; (with_reducible refine GI.out.mono ?_); rintro e w1 ⟨rfl, rfl⟩)
          go_cut [0] (fun p wx => p = .pointer (some ⟨a, 0, none⟩) ∧ DvAt wx I a mk mw (s.writes i xs) ∧ TurnsIn (DSet a mk mw) w wx)
          case first =>
            go_region_with (go_at_call 42; refine (GC.out _ (by first | exact B0 | exact below_draws B0 _)).mono ?_; rintro e w1 ⟨v, rfl, own, hb⟩; have q3 := (HD.out.below (w' := w1) ⟨hb.os, hb.tape, hb.output, hb.size, hb.block⟩).reads.2.2.2.1; have e1 := (HStore.out w1 v ⟨hb.os, hb.tape, hb.output, hb.size, hb.block⟩ own).1)
            all_goals
              have hS := HStore.out w1 v ⟨hb.os, hb.tape, hb.output, hb.size, hb.block⟩ own
              go_wp2_with fail
              go_meet
              exact ⟨rfl, hS.2.1, hS.2.2⟩
          case rest =>
            clear c0 c1 c2 c3 c4 c5 c6 c7 b1 b2
            obtain ⟨rfl, D, T⟩ := hcut
            have GB := Lib.hid (blows_any I a mk mw (s.writes i xs) _ D hof)
            have hbl : (s.writes i xs).blown = decide (s.fuse = 0) := rfl
            rw [hbl] at GB
            have hw1 := D.ok.w1
            have hw0 : 0 ≤ s.wr := hw1
            by_cases hf : s.fuse = 0
            · rw [decide_eq_true hf] at GB
              rw [if_pos hf] at HR
              go_wp2_with (go_at_call 43; (with_reducible refine GB.out.mono ?_); rintro e w4 ⟨rfl, hd, ht⟩)
              go_ret
              rw [← HR.out]
              exact ⟨rfl, hd, T.trans ht⟩
            · rw [decide_eq_false hf] at GB
              rw [if_neg hf] at HR
              have hok := D.ok.tick
              have HTW := Lib.hid ((s.writes i xs).tick_wr)
              have HF : ∀ w4, DvAt w4 I a mk mw (s.writes i xs).tick → w4.cell? ⟨a, 7, none⟩ = some (.int .u64 s.wr) ∧ w4.frozen? ⟨a, 7, none⟩ = false ∧ DvAt (w4.setCell ⟨a, 7, none⟩ (.int .u64 (s.wr + 1))) I a mk mw { (s.writes i xs).tick with wr := s.wr + 1 } ∧ TurnsIn (DSet a mk mw) w4 (w4.setCell ⟨a, 7, none⟩ (.int .u64 (s.wr + 1))) := by
                intro w4 hd
                have r7 := hd.reads.2.2.2.2.2.2.2
                rw [(s.writes i xs).tick_wr] at r7
                obtain ⟨q1, q2⟩ := hd.field 7 (.int .u64 (s.wr + 1)) { (s.writes i xs).tick with wr := s.wr + 1 } rfl rfl rfl rfl ⟨hok.s1, hok.s2, hok.c1, hok.c2, hok.ku, hok.wu, hok.kr, hok.wr_, hok.wn, hok.f1, hok.f2, hok.o1, by show 0 ≤ s.wr + 1; omega⟩
                exact ⟨r7, hd.free 7, q1, q2⟩
              have HF' := Lib.hid HF
              clear HF hok D hf hw1 hbl
              generalize (s.writes i xs).tick = s2 at *
              go_wp2_with (go_at_call 43; (with_reducible refine GB.out.mono ?_); rintro e w4 ⟨rfl, hd, ht⟩; obtain ⟨r7, f7, q1, q2⟩ := HF'.out w4 hd)
              go_ret
              rw [← HR.out]
              exact ⟨rfl, q1, T.trans (ht.trans q2)⟩
        · rw [if_pos hlen]
          have b1 : ((xs.length : Int) != (s.size : Int)) = true := by simpa using (fun e : (xs.length : Int) = s.size => hlen (by omega))
          have b2 : ((xs.length : Int) == (s.size : Int)) = false := by simpa using (fun e : (xs.length : Int) = s.size => hlen (by omega))
          clear h hlen
          go_enter Tryd.func12, Tryd.ntmps12
          go_wp2_with (go_at_call 41; (with_reducible refine GI.out.mono ?_); rintro e w1 ⟨rfl, rfl⟩)
          go_ret
          exact HN.out 3
end Go.Proofs.YtpnodocjpedcmaaDoor.Sec

namespace Go.Proofs.YtpnodocjpedcmaaDoor.Sec
open Go.Proofs.YtpnodocjpedcmaaDoor.Kit

theorem getS_low {l : Sl} {k : Int} (h : ∀ p ∈ l, k < p.1) : getS l k = none := by
  induction l with
  | nil => rfl
  | cons q r ih =>
    obtain ⟨j, u⟩ := q
    have := h (j, u) (by simp)
    simp only at this
    unfold getS
    rw [if_neg (by omega)]
    exact ih fun p hp => h p (List.mem_cons_of_mem _ hp)
theorem getS_putS {l : Sl} (hu : Up l) (k j : Int) (o : Option (List Int)) : getS (putS l k o) j = if j = k then some o else getS l j := by
  induction l with
  | nil =>
    unfold putS getS
    by_cases c : k = j
    · rw [if_pos c, if_pos c.symm]
    · rw [if_neg c, if_neg (fun e => c e.symm)]
      rfl
  | cons q r ih =>
    obtain ⟨i, u⟩ := q
    obtain ⟨h1, h2⟩ := List.pairwise_cons.1 hu
    unfold putS
    by_cases c1 : k < i
    · rw [if_pos c1]
      conv => lhs; unfold getS
      by_cases c : k = j
      · rw [if_pos c, if_pos c.symm]
      · rw [if_neg c, if_neg (fun e => c e.symm)]
    · rw [if_neg c1]
      by_cases c2 : k = i
      · rw [if_pos c2]
        subst c2
        conv => lhs; unfold getS
        by_cases c : k = j
        · rw [if_pos c, if_pos c.symm]
        · rw [if_neg c, if_neg (fun e => c e.symm)]
          conv => rhs; unfold getS
          rw [if_neg c]
      · rw [if_neg c2]
        conv => lhs; unfold getS
        rw [ih h2]
        conv => rhs; unfold getS
        by_cases c : i = j
        · rw [if_pos c, if_pos c, if_neg (by omega)]
        · rw [if_neg c, if_neg c]
theorem getS_some {l : Sl} (hu : Up l) {p : Int × Option (List Int)} (h : p ∈ l) : getS l p.1 = some p.2 := by
  induction l with
  | nil => cases h
  | cons q r ih =>
    obtain ⟨j, u⟩ := q
    obtain ⟨h1, h2⟩ := List.pairwise_cons.1 hu
    rcases List.mem_cons.1 h with rfl | h
    · unfold getS; rw [if_pos rfl]
    · have : j < p.1 := h1 p h
      unfold getS
      rw [if_neg (by omega)]
      exact ih h2 h
theorem sl_ext : ∀ {l m : Sl}, Up l → Up m → (∀ k, getS l k = getS m k) → l = m
  | [], [], _, _, _ => rfl
  | [], q :: r, _, hm, h => by
    have := h q.1
    rw [getS_some hm (by simp)] at this
    cases this
  | q :: r, [], hl, _, h => by
    have := h q.1
    rw [getS_some hl (by simp)] at this
    cases this
  | (i, u) :: r, (j, v) :: t, hl, hm, h => by
    obtain ⟨a1, a2⟩ := List.pairwise_cons.1 hl
    obtain ⟨b1, b2⟩ := List.pairwise_cons.1 hm
    have e : i = j := by
      rcases Int.lt_trichotomy i j with c | c | c
      · have := h i
        rw [getS_low (l := (j, v) :: t) (fun p hp => by
          rcases List.mem_cons.1 hp with rfl | hp
          · exact c
          · have : j < p.1 := b1 p hp
            omega)] at this
        unfold getS at this
        rw [if_pos rfl] at this
        cases this
      · exact c
      · have := h j
        rw [getS_low (l := (i, u) :: r) (fun p hp => by
          rcases List.mem_cons.1 hp with rfl | hp
          · exact c
          · have : i < p.1 := a1 p hp
            omega)] at this
        unfold getS at this
        rw [if_pos rfl] at this
        cases this
    subst e
    have ev : u = v := by
      have := h i
      unfold getS at this
      rw [if_pos rfl, if_pos rfl] at this
      injection this
    subst ev
    congr 1
    refine sl_ext a2 b2 fun k => ?_
    have := h k
    unfold getS at this
    by_cases c : i = k
    · subst c
      rw [getS_low (fun p hp => a1 p hp), getS_low (fun p hp => b1 p hp)]
    · rw [if_neg c, if_neg c] at this
      exact this

/-- What waits is kept. -/
def merge (k w : Sl) : Sl := w.foldl (fun k p => putS k p.1 p.2) k
theorem merge_up {k w : Sl} (h : Up k) : Up (merge k w) := by
  induction w generalizing k with
  | nil => exact h
  | cons q r ih => exact ih (h.putS q.1 q.2)
theorem mem_merge {k w : Sl} {p : Int × Option (List Int)} (h : p ∈ merge k w) : p ∈ k ∨ p ∈ w := by
  induction w generalizing k with
  | nil => exact Or.inl h
  | cons q r ih =>
    rcases ih h with h | h
    · rcases mem_putS h with rfl | h
      · exact Or.inr (by simp)
      · exact Or.inl h
    · exact Or.inr (List.mem_cons_of_mem _ h)
theorem getS_merge {k w : Sl} (h : Up k) (hw : Up w) (j : Int) : getS (merge k w) j = match getS w j with | some o => some o | none => getS k j := by
  induction w generalizing k with
  | nil => rfl
  | cons q r ih =>
    obtain ⟨i, u⟩ := q
    obtain ⟨a1, a2⟩ := List.pairwise_cons.1 hw
    show getS (merge (putS k i u) r) j = _
    have e : getS ((i, u) :: r) j = if i = j then some u else getS r j := rfl
    rw [ih (h.putS i u) a2, getS_putS h, e]
    by_cases c : i = j
    · subst c
      rw [getS_low (fun p hp => a1 p hp), if_pos rfl, if_pos rfl]
    · rw [if_neg c, if_neg (fun e => c e.symm)]
end Go.Proofs.YtpnodocjpedcmaaDoor.Sec

namespace Go.Proofs.YtpnodocjpedcmaaDoor.Sec
open Go.ChangeShapes Go.WideShapes Go.ChangeAt Go.RowKit Go.Proofs.YtpnodocjpedcmaaDoor.Kit Go.Maps Go.ChangeMaps Go.MapKept

/-- What waits is kept, and waits no more. -/
def Dv.flush (s : Dv) : Dv := { s with kept := merge s.kept s.waits, waits := [] }
def Dv.sync (s : Dv) : Int × Dv := if s.off = true then (8, s) else if s.fuse = 0 then (8, s.tick) else (0, s.tick.flush)
theorem Dv.Ok.flush {s : Dv} (h : s.Ok) : s.flush.Ok :=
  ⟨h.s1, h.s2, h.c1, h.c2, merge_up h.ku, up_nil, fun p hp => by
    rcases mem_merge hp with hp | hp
    · exact h.kr p hp
    · exact h.wr_ p hp, fun _ h => (List.not_mem_nil h).elim, fun _ h => (List.not_mem_nil h).elim, h.f1, h.f2, h.o1, h.w1⟩

/-- clear(m). -/
theorem MapAt.clear {w : World} {I : Nat → Prop} {R : Value → Option (DataW Unit × List MemPlace)} {b n : Nat} {l : Sl} {t e : TypeId} (ht : Tryd.prog.underlying t = some (.map 3 e)) (h : MapAt w I R b n l) :
    ∃ w', (∀ ty, (Builtin.clear_ #[t] ty #[.map (some b)]).run Tryd.prog w = .ok (.tuple #[]) w') ∧ MapAt w' I R b n [] ∧ w.mapTurned w' b := by
  obtain ⟨es, ⟨e1, c1, h1, F, _⟩, h2⟩ := h
  refine ⟨setBlock w b (.map #[] c1), fun ty => ?_, ?_, ⟨e1, c1, #[], c1, h1, rfl⟩⟩
  · simp [Builtin.clear_, run_underlying ht, MapKept.run_getObj_map h1, MapKept.run_setObj_map _ h1, Result.andThen, setBlock]
  · refine ⟨[], ⟨#[], c1, heap_setBlock_same h1 _, ⟨by simp, MapKept.stamped_empty c1, by simp⟩, Nat.le_refl _, rfl⟩, .nil⟩

/-- A device, its map of what waits under way in a loop. -/
theorem has_get {w : World} {I : Nat → Prop} {n : Nat} {es : List (Lit × DataW Unit)} {l : Sl} (h : Ties w I n es l) (k : Int) (hk : Maps.has (.map es) (.int .i64 k) = true) : ∃ o, getS l k = some o := by
  cases hg : getS l k with
  | some o => exact ⟨o, rfl⟩
  | none => rw [(h.get_no k hg).1] at hk; cases hk

/-- The loop of Sync: kc is kept by now; left tells what is still to come. -/
structure Going (w0 w : World) (I : Nat → Prop) (a mk mw r N : Nat) (s : Dv) (es : List (Lit × DataW Unit)) (left : Lit → Bool) (cnt : Nat) (kc : Sl) : Prop where
  blk : Block w a 91 (s.cells mk mw)
  k : MapAt w I RK mk s.size kc
  ku : Up kc
  kr : ∀ p ∈ kc, 0 ≤ p.1 ∧ p.1 < s.count
  rg : w.ranges Tryd.prog 3 RW mw r N (.map es) left cnt
  ties : Ties w I s.size es s.waits
  sub : ∀ kl, left kl = true → Maps.has (.map es) kl = true
  is : ∀ j, getS kc j = match getS s.waits j with | some o => if left (.int .i64 j) = true then getS s.kept j else some o | none => getS s.kept j
  tn : TurnsIn (DSet a mk mw) w0 w
  nr : w0.heap.size ≤ r
  na : a < w0.heap.size
  nk : mk < w0.heap.size
  nw : mw < w0.heap.size

theorem iter_no_row {w : World} {b r n : Nat} {D : DataW Unit} {left : Lit → Bool} {cnt : Nat} (h : w.ranges Tryd.prog 3 RW b r n D left cnt) (cs : Array Value) (t : TypeId) (f : Nat × Nat) : w.heap[r]? ≠ some (.cells cs t f) := by
  obtain ⟨es, clock, since, seen, c0, _, _, _, _, hr, _⟩ := h
  rw [hr]
  intro e
  injection e with e
  cases e

/-- One entry is kept. -/
theorem Going.step {w0 w1 : World} {I : Nat → Prop} {a mk mw r N : Nat} {s : Dv} {es : List (Lit × DataW Unit)} {left : Lit → Bool} {cnt cnt1 : Nat} {kc : Sl} {w : World} (hok : s.Ok) (ne : mk ≠ mw) (h : Going w0 w I a mk mw r N s es left cnt kc) (x : Int) (v : Value) (y : DataW Unit × List MemPlace)
    (hx : (Lit.int .i64 x).wf = true) (hl : left (.int .i64 x) = true) (hv : RW v = some y) (hat : ∀ zd, (DataW.map es).atKey (.int .i64 x) zd = y.1) (hrg : w1.ranges Tryd.prog 3 RW mw r N (.map es) (fun z => left z && !z.sameKey (.int .i64 x)) cnt1) (hg : w.grownBy w1 (some r)) :
    w1.cell? ⟨a, 2, none⟩ = some (.map (some mk)) ∧ (∃ g m, v = .slice (some ⟨g, 0, none⟩) s.size m) ∧ ∃ w2, (Instr.mapUpdate 88 (.map (some mk)) (.int .i64 x) (.agg #[v, .bool false])).run Tryd.prog w1 = .ok () w2 ∧
      Going w0 w2 I a mk mw r N s es (fun z => left z && !z.sameKey (.int .i64 x)) cnt1 (putS kc x (match getS s.waits x with | some o => o | none => none)) := by
  obtain ⟨o, ho⟩ := has_get h.ties x (h.sub _ hl)
  obtain ⟨q1, q2⟩ := hok.wr_ _ (mem_getS ho)
  cases o with
  | none => exact absurd rfl (hok.wn _ (mem_getS ho))
  | some xs =>
    simp only [ho]
    obtain ⟨_, d, hd, htie⟩ := h.ties.get_yes x _ ho
    have hy : y.1 = d := by rw [← hat (.lit (.bool true)), hd]
    have hnr := fun cs f => iter_no_row h.rg cs 5 f
    have t1 : TurnsIn (fun b => b = r) w w1 := TurnsIn.ofGrown (row := some r) hg fun b hb => (Option.some.inj hb).symm
    have hS : ∀ b, b = r → I b → ∀ cs f, w.heap[b]? ≠ some (.cells cs 5 f) := by rintro b rfl _ cs f; exact hnr cs f
    have hna := h.na
    have hnk := h.nk
    have hnw := h.nw
    have hnrr := h.nr
    have blk1 := h.blk.out t1 (by omega)
    have k1 := h.k.out t1 (by omega) hS
    have ties1 := h.ties.out t1 hS
    obtain ⟨_, g, c, e1, e2, e3, eI, e4⟩ := htie.out t1 hS
    change d = codeS g s.size c at e1
    have hv' : RW v = some (codeS g s.size c, y.2) := by rw [hv, ← e1, ← hy]
    obtain rfl := RW_some hv'
    have hc2 := hok.c2
    have hfew : kc.length < 1000000000 := by
      have := up_length kc 0 h.ku h.kr
      omega
    have hxb : -9223372036854775808 ≤ x ∧ x ≤ 9223372036854775807 := by simp only at q1 q2; omega
    obtain ⟨w2, hrun, hm2, ht2⟩ := k1.store Tryd.underlying88 h.ku hfew x hxb _ (some xs) (GoodV.kept eI e2 e3 e4)
    have t2 : TurnsIn (fun b => b = mk) w1 w2 := TurnsIn.ofGrown (row := some mk) ht2.grown fun b hb => (Option.some.inj hb).symm
    have hS2 : ∀ b, b = mk → I b → ∀ cs f, w1.heap[b]? ≠ some (.cells cs 5 f) := fun b hb _ cs f => row_not_map k1 b hb cs f
    have hak : a ≠ mk := by
      rintro rfl
      exact h.k.no_row _ _ _ h.blk
    refine ⟨blk1.cell 2, ⟨g, c, rfl⟩, w2, hrun, ⟨blk1.out t2 hak, hm2, h.ku.putS x (some xs), fun p hp => ?_, ?_, ties1.out t2 hS2, fun kl hkl => ?_, fun j => ?_, ?_, h.nr, h.na, h.nk, h.nw⟩⟩
    · rcases mem_putS hp with rfl | hp
      · exact ⟨q1, q2⟩
      · exact h.kr p hp
    · refine hrg.kept ht2.grown (fun e => ne (Option.some.inj e).symm) (fun e => ?_)
      have := Option.some.inj e
      omega
    · simp only [Bool.and_eq_true] at hkl
      exact h.sub kl hkl.1
    · rw [getS_putS h.ku]
      by_cases c : j = x
      · subst c
        rw [if_pos rfl, ho]
        simp only [same_int, decide_true, Bool.not_true, Bool.and_false]
        rfl
      · rw [if_neg c, h.is j]
        simp only [same_int, decide_eq_false c, Bool.not_false, Bool.and_true]
    · refine (h.tn.then_ t1 fun b hb e => ?_).trans (t2.mono fun b _ e => Or.inr (Or.inl e))
      omega

/-- The loop is done. -/
theorem Going.done {w0 w : World} {I : Nat → Prop} {a mk mw r N : Nat} {s : Dv} {es : List (Lit × DataW Unit)} {left : Lit → Bool} {cnt : Nat} {kc : Sl} (hok : s.Ok) (ne : mk ≠ mw) (h : Going w0 w I a mk mw r N s es left cnt kc) (hl : ∀ kl, left kl = false) :
    w.cell? ⟨a, 3, none⟩ = some (.map (some mw)) ∧ ∃ w', (∀ ty, (Builtin.clear_ #[89] ty #[.map (some mw)]).run Tryd.prog w = .ok (.tuple #[]) w') ∧ DvAt w' I a mk mw s.flush ∧ TurnsIn (DSet a mk mw) w0 w' := by
  have hm : MapAt w I RW mw s.size s.waits := MapAt.of h.rg.owns h.ties
  obtain ⟨w', hrun, hm', ht⟩ := hm.clear Tryd.underlying89
  have t : TurnsIn (fun b => b = mw) w w' := TurnsIn.ofGrown (row := some mw) ht.grown fun b hb => (Option.some.inj hb).symm
  have hS : ∀ b, b = mw → I b → ∀ cs f, w.heap[b]? ≠ some (.cells cs 5 f) := fun b hb _ cs f => row_not_map hm b hb cs f
  have haw : a ≠ mw := by
    rintro rfl
    exact hm.no_row _ _ _ h.blk
  have hk : kc = merge s.kept s.waits := by
    refine sl_ext h.ku (merge_up hok.ku) fun j => ?_
    rw [h.is j, getS_merge hok.ku hok.wu]
    cases getS s.waits j with
    | none => rfl
    | some o => simp only [hl]; rfl
  refine ⟨h.blk.cell 3, w', hrun, ⟨h.blk.out t haw, ?_, hm', ne, hok.flush⟩, h.tn.trans (t.mono fun b _ e => Or.inr (Or.inr e))⟩
  show MapAt w' I RK mk s.size (merge s.kept s.waits)
  rw [← hk]
  exact h.k.out t ne hS

theorem Going.start {w1 w2 : World} {I : Nat → Prop} {a mk mw N : Nat} {s : Dv} {es : List (Lit × DataW Unit)} (hd : DvAt w1 I a mk mw s) (hties : Ties w1 I s.size es s.waits)
    (hrg : w2.ranges Tryd.prog 3 RW mw w1.heap.size N (.map es) (Maps.has (.map es)) (Maps.size (.map es))) (hg : w1.grownBy w2 none) :
    Going w1 w2 I a mk mw w1.heap.size N s es (Maps.has (.map es)) (Maps.size (.map es)) s.kept := by
  have t : TurnsIn (fun _ => False) w1 w2 := TurnsIn.ofGrown (row := none) hg fun b hb => by cases hb
  refine ⟨hd.blk.out t id, hd.k.out t id (fun _ h => h.elim), hd.ok.ku, hd.ok.kr, hrg, hties.out t (fun _ h => h.elim), fun _ h => h, fun j => ?_, t.mono fun _ _ h => h.elim, Nat.le_refl _, hd.lt.1, hd.lt.2.1, hd.lt.2.2⟩
  cases hj : getS s.waits j with
  | none => rfl
  | some o => simp only [(hties.get_yes j o hj).1, if_true]

theorem invK : ∀ key kl, keyOf Tryd.prog 3 key = some kl → ∃ x : Int, key = Value.int .i64 x := fun key kl h => by
  obtain ⟨x, rfl, _⟩ := Maps.keyOf_int_inv Tryd.underlying3 h
  exact ⟨x, rfl⟩
theorem invV : ∀ v y, RW v = some y → ∃ c : Value, v = id c := fun v _ _ => ⟨v, rfl⟩

set_option maxRecDepth 100000 in
set_option maxHeartbeats 3200000 in
theorem sync_any (I : Nat → Prop) (a mk mw : Nat) (s : Dv) (w : World) (h : DvAt w I a mk mw s) (hof : s.offs ≤ 1000000000) :
    Calls Tryd.prog 53 #[.pointer (some ⟨a, 0, none⟩)] w (Leaves I a mk mw w s.sync.2 (.int .i64 s.sync.1)) := by
  have GI := Lib.hid (isOn_any I a mk mw s w h)
  have GB := Lib.hid (blows_any I a mk mw s w h hof)
  unfold Dv.sync
  cases hoff : s.off with
  | true =>
    rw [if_pos rfl]
    rw [hoff] at GI
    go_enter Tryd.func53, Tryd.ntmps53
    go_wp2_with (go_at_call 41; (with_reducible refine GI.out.mono ?_); rintro e w1 ⟨rfl, rfl⟩)
    go_ret
    exact ⟨rfl, h, TurnsIn.refl _ _⟩
  | false =>
    rw [if_neg (by decide)]
    rw [hoff] at GI
    unfold Dv.blown at GB
    by_cases hf : s.fuse = 0
    · rw [if_pos hf]
      rw [decide_eq_true hf] at GB
      clear hf
      go_enter Tryd.func53, Tryd.ntmps53
      go_wp2_with (first
        | (go_at_call 41; (with_reducible refine GI.out.mono ?_); rintro e w1 ⟨rfl, rfl⟩)
        | (go_at_call 43; (with_reducible refine GB.out.mono ?_); rintro e w1 ⟨rfl, hd, ht⟩))
      go_ret
      exact ⟨rfl, hd, ht⟩
    · rw [if_neg hf]
      rw [decide_eq_false hf] at GB
      clear hf h hoff
      generalize s.tick = s2 at *
      go_enter Tryd.func53, Tryd.ntmps53
      go_wp2_with (first
        | (go_at_call 41; (with_reducible refine GI.out.mono ?_); rintro e w1 ⟨rfl, rfl⟩)
        | (go_at_call 43; (with_reducible refine GB.out.mono ?_); rintro e w1 ⟨rfl, hd, ht⟩; have q3 := hd.reads.2.2.2.1; have hwt := hd.wt; obtain ⟨es, hown, hties⟩ := hwt)
        | (at_range; refine wpList_range_own _ rfl _ 89 rfl 3 22 keyI Tryd.underlying89 RW mw s2.waits.length (.map es) rfl hown ?_; intro w2 hrg hg hs))
      have hst := Going.start hd hties hrg hg
      have hok := Lib.hid hd.ok
      have hne := hd.ne
      have hIs := Lib.hid ht
      clear hg hs hd ht hown hties q3 hrg GI GB
      generalize hr : w1.heap.size = r at *
      clear hr
      go_frame
      go_loopw [3] (fun _ wr => ∃ left cnt kc, Going w1 wr I a mk mw r s2.waits.length s2 es left cnt kc) (fun _ wr => wr.rangeLeft mw r)
      case atStart => exact ⟨_, _, _, hst⟩
      case round =>
        clear hst
        obtain ⟨left, cnt, kc, hgo⟩ := hrel
        have hrg := hgo.rg
        go_wp2_with (at_next; refine wpList_next_ranges _ rfl _ rfl 3 keyI RW (Value.int .i64) id invK invV mw r s2.waits.length (.map es) left cnt rfl hrg ?_ ?_)
        · intro _ hl0
          obtain ⟨q3, w5, hclr, hD, hT⟩ := hgo.done hok.out hne hl0
          have HD := Lib.hid hD
          have HT := Lib.hid (hIs.out.trans hT)
          clear hgo hrg hD hT hl0
          go_wp2
          go_ret
          exact ⟨rfl, HD.out, HT.out⟩
        · intro x c kl y0 y1 w6 cnt1 hkey hlk hv hat hrg1 hlt hg1 hs1 hen
          obtain ⟨x', ex, rfl, hwx⟩ := Maps.keyOf_int_inv Tryd.underlying3 hkey
          cases ex
          obtain ⟨q2, ⟨g, m, rfl⟩, w7, hup, hgo7⟩ := hgo.step hok.out hne x c (y0, y1) hwx hlk hv hat hrg1 hg1
          have HG := Lib.hid hgo7
          have HM : Hid (w7.rangeLeft mw r < wr.rangeLeft mw r) := Lib.hid (by rw [hgo7.rg.left_eq, hgo.rg.left_eq]; exact hlt)
          clear hgo hrg hgo7 hkey hlk hv hat hrg1 hlt hg1 hs1 hwx
          go_wp2
          go_roundw
          case rel => exact ⟨_, _, _, HG.out⟩
          case measure => exact HM.out
end Go.Proofs.YtpnodocjpedcmaaDoor.Sec

namespace Go.Proofs.YtpnodocjpedcmaaDoor.Sk
open Go.RowKit Go.Maps Go.Sort Go.Shelf Go.Proofs Go.Proofs.YtpnodocjpedcmaaDoor.Kit Go.Proofs.YtpnodocjpedcmaaDoor.Sec Go.ChangeMaps

theorem sortsA (m : Nat) : AnyZI.SortsIn Tryd.prog sortedA_ren Fence.wide m :=
  ⟨fun blk off cap ss W hH hblk hsz => callsIn_wide.2 (AnyM.slices_Sort_int sortA blk off cap ss W hH hblk hsz),
   fun p cap W => callsIn_wide.2 (AnyM.slices_Sort_int_none sortA p cap W)⟩

theorem keys_any (mb : Option Nat) (W : World) : Calls Tryd.prog 47 #[.map mb] W fun e w' => e = .returned (.func (.func 75) #[] #[.pointer (some ⟨W.heap.size, 0, none⟩)]) ∧ w' = W.alloc (.cells #[.map mb] 89) :=
  (callsIn_wide (n := 5)).1 (AnyZI.keys_in keysA Fence.wide 5 trivial rfl mb W)

theorem sorted_any {H : Type} (b nn : Nat) (D0 : DataW H) (R : Value → Option (DataW H × List MemPlace)) (w : World) (hown : w.ownsMap Tryd.prog 3 R b nn D0) (hmax : Maps.size D0 ≤ maxLen) (hbytes : Maps.size D0 * 8 ≤ 140737488355328) :
    Calls Tryd.prog 46 #[.func (.func 75) #[] #[.pointer (some ⟨w.heap.size, 0, none⟩)]] (w.alloc (.cells #[.map (some b)] 89)) fun e w' => ∃ (v : Value) (ss : List Int), e = .returned v ∧ ss.Perm (intKeys D0) ∧
      w'.ownsRow (w.alloc (.cells #[.map (some b)] 89)).heap.size 3 1 v ss.length ((ss.mergeSort (fun x y => decide (x ≤ y))).map encZ) ∧ (v = .slice none 0 0 ↔ ss = []) ∧ Below (w.alloc (.cells #[.map (some b)] 89)).heap.size (w.alloc (.cells #[.map (some b)] 89)) w' := by
  refine (callsIn_wide (n := 5)).1 ?_
  have hbl := hown.lt
  have hseq : SeqGives Fence.wide 2 Tryd.prog 75 #[.pointer (some ⟨w.heap.size, 0, none⟩)] encZ (fun ss => ss.Perm (intKeys D0)) (Maps.size D0) (w.alloc (.cells #[.map (some b)] 89)) :=
    AnyZI.keys_gives (ρ := keysA_ren) { keysA with } Fence.wide _ trivial rfl (by omega) w.heap.size b nn D0 _ (by simp) (by simp) (by
      obtain ⟨es, clock, hb, Ft, hs, hD⟩ := hown
      exact ⟨es, clock, (Below.heap_alloc _ _ b hbl).trans hb, Ft, hs, hD⟩)
  exact (AnyZI.sorted_in sortedA Fence.wide 5 trivial trivial trivial trivial rfl (by omega) (sortsA _) (enters_of Tryd.func74 (by kernel_rfl) rfl) 75 #[.pointer (some ⟨w.heap.size, 0, none⟩)] trivial (enters_of Tryd.func75 (by kernel_rfl) rfl) _ _ hmax hbytes _ hseq).mono fun e w' h => h

/-- The sectors' numbers, in their order. -/
theorem keys_map {w : World} {I : Nat → Prop} {n : Nat} {es : List (Lit × DataW Unit)} {l : Sl} (h : Ties w I n es l) : intKeys (DataW.map es) = l.map (·.1) := by
  induction h with
  | nil => rfl
  | @cons p q es l hp _ ih =>
    have e : intKeys (DataW.map (p :: es)) = intKeys (DataW.map [p]) ++ intKeys (DataW.map es) := rfl
    rw [e, ih]
    obtain ⟨p1, p2⟩ := p
    obtain ⟨rfl, _⟩ := hp
    rfl
theorem sorted_keys {l : Sl} (hu : Up l) {ss : List Int} (h : ss.Perm (l.map (·.1))) : ss.mergeSort (fun x y => decide (x ≤ y)) = l.map (·.1) := by
  have e := mergeSort_of_perm_i h
  rw [e]
  apply List.mergeSort_of_pairwise
  have := hu
  unfold Up at this
  rw [List.pairwise_map]
  exact this.imp (fun h => by simp; omega)

/-- slices.Sorted(maps.Keys(m)), its second step. -/
def GivesK (l : Sl) (w : World) (e : Ending) (w' : World) : Prop := ∃ v, e = .returned v ∧ Own w' w.heap.size 3 .i64 v (l.map (·.1)) ∧ Below w.heap.size w w'
theorem sorted_map {w : World} {I : Nat → Prop} {R : Value → Option (DataW Unit × List MemPlace)} {b n : Nat} {l : Sl} (h : MapAt w I R b n l) (hu : Up l) (hl : l.length < 1000000000) :
    Calls Tryd.prog 46 #[.func (.func 75) #[] #[.pointer (some ⟨w.heap.size, 0, none⟩)]] (w.alloc (.cells #[.map (some b)] 89)) (GivesK l w) := by
  obtain ⟨es, h1, h2⟩ := h
  have hsz : Maps.size (DataW.map es) = l.length := h2.length
  have h8 : Maps.size (DataW.map es) * 8 ≤ 140737488355328 := by rw [hsz]; omega
  have hm : Maps.size (DataW.map es) ≤ maxLen := by rw [hsz]; exact Nat.le_of_lt (len_ok hl)
  refine (sorted_any b l.length (DataW.map es) R w h1 hm h8).mono fun e w' ⟨v, ss, he, hp, hown, _, hb⟩ => ⟨v, he, ?_, ?_⟩
  · rw [keys_map h2] at hp
    have hlen := hp.length_eq
    rw [sorted_keys hu hp] at hown
    rw [hlen] at hown
    exact Own.mono (B := (w.alloc (.cells #[.map (some b)] 89)).heap.size) hown (by simp)
  · exact ((Below.refl _ w).alloc (Nat.le_refl _) _).trans (hb.mono (by simp))
end Go.Proofs.YtpnodocjpedcmaaDoor.Sk

namespace Go.Proofs.YtpnodocjpedcmaaDoor.Kit
open Go.ChangeShapes Go.WideShapes Go.ChangeAt Go.RowKit

theorem conv_bytes {P : Program} {t e ts : TypeId} (ht : P.underlying t = some (.slice e)) (he : P.underlying e = some (.int .u8)) (hs : P.underlying ts = some .string)
    (w : World) (A : Option Addr) (xs : List Int) (c B : Nat) (hr : Holds w B .u8 A xs) :
    (convert t ts (.slice A xs.length c)).run P w = .ok (.string (strOfNums xs)) w := by
  rcases Nat.eq_zero_or_pos xs.length with h0 | h0
  · obtain rfl : xs = [] := List.eq_nil_of_length_eq_zero h0
    cases A with
    | none => exact run_convert_bytes_nil w _ _ ht he _ _ _ hs
    | some ad =>
      have hl : (loadCells ad 0).run P w = .ok (([] : List Int).map (Value.int .u8)).toArray w := by simpa using run_loadCells_list (P := P) w ad [] (by simp)
      rw [run_convert_bytes_string w _ _ e _ _ c ht he hs]
      rw [show ([] : List Int).length = 0 from rfl, run_bytesToString w ad 0 c [] hl]
      rfl
  · obtain ⟨b, off, rfl, _, hc⟩ := hr h0
    exact run_convert_bytes_arg w _ _ ht he b off xs.length c xs rfl hc _ hs

/-- No block is both rows'. -/
def Apart (u v : Value) : Prop := ∀ b, u.ownBlock = some b → v.ownBlock ≠ some b
theorem Apart.symm {u v : Value} (h : Apart u v) : Apart v u := fun b hb hu => h b hu hb
theorem Apart.newer {w : World} {u v v' : Value} (h : Apart u v) (hu : ∀ b, u.ownBlock = some b → b < w.heap.size) (n : Newer w v v') : Apart u v' := by
  intro b hb
  rcases n with n | n
  · rw [n]; exact h b hb
  · intro he
    have h1 := n b he
    have h2 := hu b hb
    omega
theorem Own.top {w : World} {B : Nat} {e : TypeId} {k : IntKind} {v : Value} {xs : List Int} (h : Own w B e k v xs) : ∀ b, v.ownBlock = some b → b < w.heap.size := fun b hb => (h.lt b hb).2
/-- A new row is apart from all that was there. -/
theorem Apart.new {w w' : World} {B : Nat} {e : TypeId} {k : IntKind} {u v : Value} {xs : List Int} (h : Own w' B e k v xs) (hB : w.heap.size ≤ B) (hu : ∀ b, u.ownBlock = some b → b < w.heap.size) : Apart u v := by
  intro b hb he
  have h1 := h.lt b he
  have h2 := hu b hb
  omega

/-- n elements from the p-th on. -/
theorem Holds.sub {w : World} {B : Nat} {k : IntKind} {b off : Nat} {xs : List Int} (h : Holds w B k (some ⟨b, off, none⟩) xs) (p n : Nat) (hn : p + n ≤ xs.length) : Holds w B k (some ⟨b, off + p, none⟩) ((xs.drop p).take n) := by
  intro hx
  have hl : ((xs.drop p).take n).length = n := by simp; omega
  rw [hl] at hx
  obtain ⟨b2, o2, hA, hb, hc⟩ := h (by omega)
  injection hA with hA
  injection hA with e1 e2
  subst e1 e2
  refine ⟨b, off + p, rfl, hb, fun j hj => ?_⟩
  rw [hl] at hj
  rw [Nat.add_assoc, hc (p + j) (by omega)]
  simp [List.getD, List.getElem?_take, hj]
end Go.Proofs.YtpnodocjpedcmaaDoor.Kit

namespace Go.Proofs.YtpnodocjpedcmaaDoor.Prt
open Go.ChangeShapes Go.WideShapes Go.ChangeAt Go.RowKit Go.Proofs.YtpnodocjpedcmaaDoor.Kit

theorem isin_any (x a b : Int) (w : World) : Calls Tryd.prog 96 #[.int .i64 x, .int .i64 a, .int .i64 b] w fun e w' => e = .returned (.bool (decide (a ≤ x ∧ x ≤ b))) ∧ w = w' := by
  by_cases h1 : a ≤ x
  · by_cases h2 : x ≤ b
    · rw [decide_eq_true (show a ≤ x ∧ x ≤ b from ⟨h1, h2⟩)]
      have q : decide (x ≤ b) = true := by simpa using h2
      go_enter Tryd.func96, Tryd.ntmps96
      go_wp2
      go_ret
      exact ⟨rfl, rfl⟩
    · rw [decide_eq_false (show ¬ (a ≤ x ∧ x ≤ b) from fun h => h2 h.2)]
      have q : decide (x ≤ b) = false := by simpa using h2
      go_enter Tryd.func96, Tryd.ntmps96
      go_wp2
      go_ret
      exact ⟨rfl, rfl⟩
  · rw [decide_eq_false (show ¬ (a ≤ x ∧ x ≤ b) from fun h => h1 h.1)]
    go_enter Tryd.func96, Tryd.ntmps96
    go_wp2
    go_ret
    exact ⟨rfl, rfl⟩

theorem grown_alloc {w w' : World} {row : Option Nat} (h : w.grownBy w' row) (o : Obj) : w.grownBy (w'.alloc o) row :=
  ⟨h.os, h.tape, h.output, Nat.le_trans h.size (by simp), fun k hk hne => (Below.heap_alloc w' o k (Nat.lt_of_lt_of_le hk h.size)).trans (h.block k hk hne)⟩
theorem grown_set {w w' : World} {g : Nat} (h : w.grownBy w' (some g)) (i : Nat) (u : Value) : w.grownBy (w'.setCell ⟨g, i, none⟩ u) (some g) :=
  ⟨h.os, h.tape, h.output, by simpa using h.size, fun k hk hne => (Below.heap_setCell w' _ u k (fun e => hne (by rw [e]))).trans (h.block k hk hne)⟩

theorem next_any (g : Nat) (v0 v1 v2 v3 v4 v5 v6 v7 v8 v9 : Value) (a n : Int) (w : World) (hb : Block w g 45 #[v0, v1, v2, v3, v4, v5, v6, v7, v8, v9, .int .i64 a])
    (ha : 0 ≤ a ∧ a ≤ 100000000) (hn : 0 ≤ n ∧ n ≤ 100000000) :
    Calls Tryd.prog 102 #[.int .i64 n, .pointer (some ⟨g, 0, none⟩)] w fun e w' => e = .returned (.agg #[.int .i64 a, .int .i64 n]) ∧ Block w' g 45 #[v0, v1, v2, v3, v4, v5, v6, v7, v8, v9, .int .i64 (a + n)] ∧ w.grownBy w' (some g) := by
  have c10 : w.cell? ⟨g, 10, none⟩ = some (.int .i64 a) := hb.cell 10
  have f10 := hb.frozen 10
  have hlt := hb.lt
  go_enter Tryd.func102, Tryd.ntmps102
  go_wp2
  refine bodyPost_ret (v := .agg #[.int .i64 a, .int .i64 n]) (by simp [results, Tryd.results102, go_sem]) rfl ⟨rfl, ?_, ?_⟩
  · have := ((hb.set_ 10 (.int .i64 (a + n))).alloc (.cells #[.int .i64 a, .int .i64 n] 42)).alloc (.cells #[.int .i64 a, .int .i64 n] 42)
    simpa using this
  · exact grown_alloc (grown_alloc (grown_set (World.grownBy.refl w _) 10 _) _) _

/-- The map of a layout: q sectors a block, s blocks a slot. -/
def mapV (q s : Int) : Value :=
  .agg #[.int .i64 0, .int .i64 1, .int .i64 1, .int .i64 1, .int .i64 2, .int .i64 q, .int .i64 (2 + q), .int .i64 (s * q), .int .i64 (2 + q + s * q), .int .i64 (s * q), .int .i64 (2 + q + s * q + s * q)]

def Gives (v : Value) (w : World) (e : Ending) (w' : World) : Prop := e = .returned v ∧ Below w.heap.size w w'

set_option maxHeartbeats 3200000 in
theorem lay_any (S B s q : Int) (w : World) (hS : 128 ≤ S ∧ S ≤ 4096) (hB : 128 ≤ B ∧ B ≤ 4096) (hs : 1 ≤ s ∧ s ≤ 4096) (hq : B / S = q) :
    Calls Tryd.prog 84 #[.agg #[.int .i64 S, .int .i64 B, .int .i64 s]] w (Gives (mapV q s) w) := by
  have hqb : 0 ≤ q ∧ q ≤ 32 := by
    have h0 : 0 ≤ q := by rw [← hq]; exact Int.ediv_nonneg (by omega) (by omega)
    have h1 : q * S ≤ B := by rw [← hq]; exact Int.ediv_mul_le B (by omega)
    have h2 : q * 128 ≤ q * S := Int.mul_le_mul_of_nonneg_left hS.1 h0
    omega
  have hsq : 0 ≤ s * q ∧ s * q ≤ 131072 := by
    have h1 : s * q ≤ s * 32 := Int.mul_le_mul_of_nonneg_left hqb.2 (by omega)
    exact ⟨Int.mul_nonneg (by omega) hqb.1, by omega⟩
  have hqi : B / S = q := hq
  have hwq : IntKind.i64.wrap (s * q) = s * q := IntWalk.i64_in _ (by omega)
  have bc := ((Block.new w 61 #[.int .i64 S, .int .i64 B, .int .i64 s]).alloc (.cells #[.int .i64 0, .int .i64 0, .int .i64 0, .int .i64 0, .int .i64 0, .int .i64 0, .int .i64 0, .int .i64 0, .int .i64 0, .int .i64 0, .int .i64 0] 45)).alloc (.cells #[.int .i64 0, .int .i64 0, .int .i64 0, .int .i64 0, .int .i64 0, .int .i64 0, .int .i64 0, .int .i64 0, .int .i64 0, .int .i64 0, .int .i64 0] 45)
  have br : Block (((w.alloc (.cells #[.int .i64 S, .int .i64 B, .int .i64 s] 61)).alloc (.cells #[.int .i64 0, .int .i64 0, .int .i64 0, .int .i64 0, .int .i64 0, .int .i64 0, .int .i64 0, .int .i64 0, .int .i64 0, .int .i64 0, .int .i64 0] 45)).alloc (.cells #[.int .i64 0, .int .i64 0, .int .i64 0, .int .i64 0, .int .i64 0, .int .i64 0, .int .i64 0, .int .i64 0, .int .i64 0, .int .i64 0, .int .i64 0] 45)) (w.heap.size + 1) 45 #[.int .i64 0, .int .i64 0, .int .i64 0, .int .i64 0, .int .i64 0, .int .i64 0, .int .i64 0, .int .i64 0, .int .i64 0, .int .i64 0, .int .i64 0] := by
    have := (Block.new (w.alloc (.cells #[.int .i64 S, .int .i64 B, .int .i64 s] 61)) 45 #[.int .i64 0, .int .i64 0, .int .i64 0, .int .i64 0, .int .i64 0, .int .i64 0, .int .i64 0, .int .i64 0, .int .i64 0, .int .i64 0, .int .i64 0]).alloc (.cells #[.int .i64 0, .int .i64 0, .int .i64 0, .int .i64 0, .int .i64 0, .int .i64 0, .int .i64 0, .int .i64 0, .int .i64 0, .int .i64 0, .int .i64 0] 45)
    simpa using this
  have bm : Block (((w.alloc (.cells #[.int .i64 S, .int .i64 B, .int .i64 s] 61)).alloc (.cells #[.int .i64 0, .int .i64 0, .int .i64 0, .int .i64 0, .int .i64 0, .int .i64 0, .int .i64 0, .int .i64 0, .int .i64 0, .int .i64 0, .int .i64 0] 45)).alloc (.cells #[.int .i64 0, .int .i64 0, .int .i64 0, .int .i64 0, .int .i64 0, .int .i64 0, .int .i64 0, .int .i64 0, .int .i64 0, .int .i64 0, .int .i64 0] 45)) (w.heap.size + 1 + 1) 45 #[.int .i64 0, .int .i64 0, .int .i64 0, .int .i64 0, .int .i64 0, .int .i64 0, .int .i64 0, .int .i64 0, .int .i64 0, .int .i64 0, .int .i64 0] := by
    have := Block.new ((w.alloc (.cells #[.int .i64 S, .int .i64 B, .int .i64 s] 61)).alloc (.cells #[.int .i64 0, .int .i64 0, .int .i64 0, .int .i64 0, .int .i64 0, .int .i64 0, .int .i64 0, .int .i64 0, .int .i64 0, .int .i64 0, .int .i64 0] 45)) 45 #[.int .i64 0, .int .i64 0, .int .i64 0, .int .i64 0, .int .i64 0, .int .i64 0, .int .i64 0, .int .i64 0, .int .i64 0, .int .i64 0, .int .i64 0]
    simpa using this
  have hb0 : Below w.heap.size w (((w.alloc (.cells #[.int .i64 S, .int .i64 B, .int .i64 s] 61)).alloc (.cells #[.int .i64 0, .int .i64 0, .int .i64 0, .int .i64 0, .int .i64 0, .int .i64 0, .int .i64 0, .int .i64 0, .int .i64 0, .int .i64 0, .int .i64 0] 45)).alloc (.cells #[.int .i64 0, .int .i64 0, .int .i64 0, .int .i64 0, .int .i64 0, .int .i64 0, .int .i64 0, .int .i64 0, .int .i64 0, .int .i64 0, .int .i64 0] 45)) := (((Below.refl _ _).alloc (Nat.le_refl _) _).alloc (by simp) _).alloc (by simp; omega) _
  have HQ := Lib.hid hq
  clear hq
  go_enter Tryd.func84, Tryd.ntmps84
  go_wp2_with fail
  generalize (((w.alloc (.cells #[.int .i64 S, .int .i64 B, .int .i64 s] 61)).alloc (.cells #[.int .i64 0, .int .i64 0, .int .i64 0, .int .i64 0, .int .i64 0, .int .i64 0, .int .i64 0, .int .i64 0, .int .i64 0, .int .i64 0, .int .i64 0] 45)).alloc (.cells #[.int .i64 0, .int .i64 0, .int .i64 0, .int .i64 0, .int .i64 0, .int .i64 0, .int .i64 0, .int .i64 0, .int .i64 0, .int .i64 0, .int .i64 0] 45)) = w0 at *
  refine (next_any _ _ _ _ _ _ _ _ _ _ _ 0 1 w0 bm (by omega) (by omega)).mono ?_
  rintro e w1 ⟨rfl, b1, g1⟩
  have bc1 := bc.grown g1 (by intro h; injection h with h; omega)
  have br1 := br.grown g1 (by intro h; injection h with h; omega)
  have hb1 := hb0.grown g1 hb0.size (fun k hk => by injection hk with hk; omega)
  clear bm bc br hb0 g1
  go_wp2_with fail
  refine (next_any _ _ _ _ _ _ _ _ _ _ _ (0 + 1) 1 w1 b1 (by omega) (by omega)).mono ?_
  rintro e w2 ⟨rfl, b2, g2⟩
  have bc2 := bc1.grown g2 (by intro h; injection h with h; omega)
  have br2 := br1.grown g2 (by intro h; injection h with h; omega)
  have hb2 := hb1.grown g2 hb1.size (fun k hk => by injection hk with hk; omega)
  clear b1 bc1 br1 hb1 g2
  have k0 : w2.cell? ⟨w.heap.size + 1 + 1, 0, none⟩ = some (.int .i64 0) := b2.cell 0
  have k1 : w2.cell? ⟨w.heap.size + 1 + 1, 1, none⟩ = some (.int .i64 0) := b2.cell 1
  have k2 : w2.cell? ⟨w.heap.size + 1 + 1, 2, none⟩ = some (.int .i64 0) := b2.cell 2
  have k3 : w2.cell? ⟨w.heap.size + 1 + 1, 3, none⟩ = some (.int .i64 0) := b2.cell 3
  have ff := fun i => b2.frozen i
  have q0 : w2.cell? ⟨w.heap.size, 0, none⟩ = some (.int .i64 S) := bc2.cell 0
  have q1 : w2.cell? ⟨w.heap.size, 1, none⟩ = some (.int .i64 B) := bc2.cell 1
  have q2 : w2.cell? ⟨w.heap.size, 2, none⟩ = some (.int .i64 s) := bc2.cell 2
  go_wp2_with fail
  have b3 := (((b2.set_ 0 (.int .i64 0)).set_ 1 (.int .i64 1)).set_ 2 (.int .i64 1)).set_ 3 (.int .i64 1)
  have bc3 := (((bc2.far (p := ⟨w.heap.size + 1 + 1, 0, none⟩) (by simp; omega) (.int .i64 0)).far (p := ⟨w.heap.size + 1 + 1, 1, none⟩) (by simp; omega) (.int .i64 1)).far (p := ⟨w.heap.size + 1 + 1, 2, none⟩) (by simp; omega) (.int .i64 1)).far (p := ⟨w.heap.size + 1 + 1, 3, none⟩) (by simp; omega) (.int .i64 1)
  have br3 := (((br2.far (p := ⟨w.heap.size + 1 + 1, 0, none⟩) (by simp) (.int .i64 0)).far (p := ⟨w.heap.size + 1 + 1, 1, none⟩) (by simp) (.int .i64 1)).far (p := ⟨w.heap.size + 1 + 1, 2, none⟩) (by simp) (.int .i64 1)).far (p := ⟨w.heap.size + 1 + 1, 3, none⟩) (by simp) (.int .i64 1)
  have hb3 := (((hb2.setCell (p := ⟨w.heap.size + 1 + 1, 0, none⟩) (by simp; omega) (.int .i64 0)).setCell (p := ⟨w.heap.size + 1 + 1, 1, none⟩) (by simp; omega) (.int .i64 1)).setCell (p := ⟨w.heap.size + 1 + 1, 2, none⟩) (by simp; omega) (.int .i64 1)).setCell (p := ⟨w.heap.size + 1 + 1, 3, none⟩) (by simp; omega) (.int .i64 1)
  generalize (((w2.setCell ⟨w.heap.size + 1 + 1, 0, none⟩ (.int .i64 0)).setCell ⟨w.heap.size + 1 + 1, 1, none⟩ (.int .i64 1)).setCell ⟨w.heap.size + 1 + 1, 2, none⟩ (.int .i64 1)).setCell ⟨w.heap.size + 1 + 1, 3, none⟩ (.int .i64 1) = w3 at *
  clear b2 bc2 br2 hb2 k0 k1 k2 k3 ff q0 q1 q2
  refine (next_any _ _ _ _ _ _ _ _ _ _ _ (0 + 1 + 1) q w3 b3 (by omega) (by omega)).mono ?_
  rintro e w4 ⟨rfl, b4, g4⟩
  have bc4 := bc3.grown g4 (by intro h; injection h with h; omega)
  have br4 := br3.grown g4 (by intro h; injection h with h; omega)
  have hb4 := hb3.grown g4 hb3.size (fun k hk => by injection hk with hk; omega)
  clear b3 bc3 br3 hb3 g4
  have k4 : w4.cell? ⟨w.heap.size + 1 + 1, 4, none⟩ = some (.int .i64 0) := b4.cell 4
  have k5 : w4.cell? ⟨w.heap.size + 1 + 1, 5, none⟩ = some (.int .i64 0) := b4.cell 5
  have ff := fun i => b4.frozen i
  go_wp2_with fail
  have b5 := (b4.set_ 4 (.int .i64 2)).set_ 5 (.int .i64 q)
  have bc5 := (bc4.far (p := ⟨w.heap.size + 1 + 1, 4, none⟩) (by simp; omega) (.int .i64 2)).far (p := ⟨w.heap.size + 1 + 1, 5, none⟩) (by simp; omega) (.int .i64 q)
  have br5 := (br4.far (p := ⟨w.heap.size + 1 + 1, 4, none⟩) (by simp) (.int .i64 2)).far (p := ⟨w.heap.size + 1 + 1, 5, none⟩) (by simp) (.int .i64 q)
  have hb5 := (hb4.setCell (p := ⟨w.heap.size + 1 + 1, 4, none⟩) (by simp; omega) (.int .i64 2)).setCell (p := ⟨w.heap.size + 1 + 1, 5, none⟩) (by simp; omega) (.int .i64 q)
  generalize (w4.setCell ⟨w.heap.size + 1 + 1, 4, none⟩ (.int .i64 2)).setCell ⟨w.heap.size + 1 + 1, 5, none⟩ (.int .i64 q) = w5 at *
  clear b4 bc4 br4 hb4 k4 k5 ff
  have q2 : w5.cell? ⟨w.heap.size, 2, none⟩ = some (.int .i64 s) := bc5.cell 2
  have b5' := b5.drewN 1
  have bc5' := bc5.drewN 1
  have br5' := br5.drewN 1
  have hb5' := below_draws hb5 1
  go_region_held3 (fun W' => W'.cell? ⟨w.heap.size, 2, none⟩ = some (.int .i64 s))
    (first | exact q2 | exact bc6.cell 2 | exact bc7.cell 2 | (rw [World.cell?_setCell_far _ _ _ _ (by simp; omega), World.cell?_setCell_far _ _ _ _ (by simp; omega), World.cell?_setCell_far _ _ _ _ (by simp; omega), World.cell?_setCell_far _ _ _ _ (by simp; omega)]; exact q7))
    (first
      | (go_at_call 102; have _t := b6; refine (next_any _ _ _ _ _ _ _ _ _ _ _ (0 + 1 + 1 + q + s * q) (s * q) w6 b6 (by omega) (by omega)).mono ?_; clear _t; rintro e w7 ⟨rfl, b7, g7⟩; have bc7 := bc6.grown g7 (by intro h; injection h with h; omega); have q7 : w7.cell? ⟨w.heap.size, 2, none⟩ = some (.int .i64 s) := bc7.cell 2; have k6 : w7.cell? ⟨w.heap.size + 1 + 1, 6, none⟩ = some (.int .i64 0) := b7.cell 6; have k7 : w7.cell? ⟨w.heap.size + 1 + 1, 7, none⟩ = some (.int .i64 0) := b7.cell 7; have k8 : w7.cell? ⟨w.heap.size + 1 + 1, 8, none⟩ = some (.int .i64 0) := b7.cell 8; have k9 : w7.cell? ⟨w.heap.size + 1 + 1, 9, none⟩ = some (.int .i64 0) := b7.cell 9; have ff7 := fun i => b7.frozen i)
      | (go_at_call 102; refine (next_any _ _ _ _ _ _ _ _ _ _ _ (0 + 1 + 1 + q) (s * q) w5.drew b5' (by omega) (by omega)).mono ?_; rintro e w6 ⟨rfl, b6, g6⟩; have bc6 := bc5'.grown g6 (by intro h; injection h with h; omega)))
  have br7 := (br5'.grown g6 (by intro h; injection h with h; omega)).grown g7 (by intro h; injection h with h; omega)
  have hb6 := hb5'.grown g6 hb5'.size (fun k hk => by injection hk with hk; omega)
  have hb7 := hb6.grown g7 hb6.size (fun k hk => by injection hk with hk; omega)
  have b8 := (((b7.set_ 6 (.int .i64 (2 + q))).set_ 7 (.int .i64 (s * q))).set_ 8 (.int .i64 (2 + q + s * q))).set_ 9 (.int .i64 (s * q))
  have br8 := (((br7.far (p := ⟨w.heap.size + 1 + 1, 6, none⟩) (by simp) (.int .i64 (2 + q))).far (p := ⟨w.heap.size + 1 + 1, 7, none⟩) (by simp) (.int .i64 (s * q))).far (p := ⟨w.heap.size + 1 + 1, 8, none⟩) (by simp) (.int .i64 (2 + q + s * q))).far (p := ⟨w.heap.size + 1 + 1, 9, none⟩) (by simp) (.int .i64 (s * q))
  have hb8 := (((hb7.setCell (p := ⟨w.heap.size + 1 + 1, 6, none⟩) (by simp; omega) (.int .i64 (2 + q))).setCell (p := ⟨w.heap.size + 1 + 1, 7, none⟩) (by simp; omega) (.int .i64 (s * q))).setCell (p := ⟨w.heap.size + 1 + 1, 8, none⟩) (by simp; omega) (.int .i64 (2 + q + s * q))).setCell (p := ⟨w.heap.size + 1 + 1, 9, none⟩) (by simp; omega) (.int .i64 (s * q))
  generalize (((w7.setCell ⟨w.heap.size + 1 + 1, 6, none⟩ (.int .i64 (2 + q))).setCell ⟨w.heap.size + 1 + 1, 7, none⟩ (.int .i64 (s * q))).setCell ⟨w.heap.size + 1 + 1, 8, none⟩ (.int .i64 (2 + q + s * q))).setCell ⟨w.heap.size + 1 + 1, 9, none⟩ (.int .i64 (s * q)) = w8 at *
  clear b5 bc5 br5 hb5 b5' bc5' br5' hb5' q2 b6 bc6 g6 b7 bc7 g7 q7 k6 k7 k8 k9 ff7 br7 hb6 hb7
  have m0 : w8.cell? ⟨w.heap.size + 1 + 1, 0, none⟩ = some (.int .i64 0) := b8.cell 0
  have m1 : w8.cell? ⟨w.heap.size + 1 + 1, 1, none⟩ = some (.int .i64 1) := b8.cell 1
  have m2 : w8.cell? ⟨w.heap.size + 1 + 1, 2, none⟩ = some (.int .i64 1) := b8.cell 2
  have m3 : w8.cell? ⟨w.heap.size + 1 + 1, 3, none⟩ = some (.int .i64 1) := b8.cell 3
  have m4 : w8.cell? ⟨w.heap.size + 1 + 1, 4, none⟩ = some (.int .i64 2) := b8.cell 4
  have m5 : w8.cell? ⟨w.heap.size + 1 + 1, 5, none⟩ = some (.int .i64 q) := b8.cell 5
  have m6 : w8.cell? ⟨w.heap.size + 1 + 1, 6, none⟩ = some (.int .i64 (2 + q)) := b8.cell 6
  have m7 : w8.cell? ⟨w.heap.size + 1 + 1, 7, none⟩ = some (.int .i64 (s * q)) := b8.cell 7
  have m8 : w8.cell? ⟨w.heap.size + 1 + 1, 8, none⟩ = some (.int .i64 (2 + q + s * q)) := b8.cell 8
  have m9 : w8.cell? ⟨w.heap.size + 1 + 1, 9, none⟩ = some (.int .i64 (s * q)) := b8.cell 9
  have m10 : w8.cell? ⟨w.heap.size + 1 + 1, 10, none⟩ = some (.int .i64 (2 + q + s * q + s * q)) := by have := b8.cell 10; simpa using this
  have r0 : w8.cell? ⟨w.heap.size + 1, 0, none⟩ = some (.int .i64 0) := br8.cell 0
  have r1 : w8.cell? ⟨w.heap.size + 1, 1, none⟩ = some (.int .i64 0) := br8.cell 1
  have r2 : w8.cell? ⟨w.heap.size + 1, 2, none⟩ = some (.int .i64 0) := br8.cell 2
  have r3 : w8.cell? ⟨w.heap.size + 1, 3, none⟩ = some (.int .i64 0) := br8.cell 3
  have r4 : w8.cell? ⟨w.heap.size + 1, 4, none⟩ = some (.int .i64 0) := br8.cell 4
  have r5 : w8.cell? ⟨w.heap.size + 1, 5, none⟩ = some (.int .i64 0) := br8.cell 5
  have r6 : w8.cell? ⟨w.heap.size + 1, 6, none⟩ = some (.int .i64 0) := br8.cell 6
  have r7 : w8.cell? ⟨w.heap.size + 1, 7, none⟩ = some (.int .i64 0) := br8.cell 7
  have r8 : w8.cell? ⟨w.heap.size + 1, 8, none⟩ = some (.int .i64 0) := br8.cell 8
  have r9 : w8.cell? ⟨w.heap.size + 1, 9, none⟩ = some (.int .i64 0) := br8.cell 9
  have r10 : w8.cell? ⟨w.heap.size + 1, 10, none⟩ = some (.int .i64 0) := br8.cell 10
  have fr := fun i => br8.frozen i
  clear b8
  go_wp2_with fail
  have b9 := (((((((((((br8.set_ 0 (.int .i64 0)).set_ 1 (.int .i64 1)).set_ 2 (.int .i64 1)).set_ 3 (.int .i64 1)).set_ 4 (.int .i64 2)).set_ 5 (.int .i64 q)).set_ 6 (.int .i64 (2 + q))).set_ 7 (.int .i64 (s * q))).set_ 8 (.int .i64 (2 + q + s * q))).set_ 9 (.int .i64 (s * q))).set_ 10 (.int .i64 (2 + q + s * q + s * q)))
  have hb9 := (((((((((((hb8.setCell (p := ⟨w.heap.size + 1, 0, none⟩) (by simp) (.int .i64 0)).setCell (p := ⟨w.heap.size + 1, 1, none⟩) (by simp) (.int .i64 1)).setCell (p := ⟨w.heap.size + 1, 2, none⟩) (by simp) (.int .i64 1)).setCell (p := ⟨w.heap.size + 1, 3, none⟩) (by simp) (.int .i64 1)).setCell (p := ⟨w.heap.size + 1, 4, none⟩) (by simp) (.int .i64 2)).setCell (p := ⟨w.heap.size + 1, 5, none⟩) (by simp) (.int .i64 q)).setCell (p := ⟨w.heap.size + 1, 6, none⟩) (by simp) (.int .i64 (2 + q))).setCell (p := ⟨w.heap.size + 1, 7, none⟩) (by simp) (.int .i64 (s * q))).setCell (p := ⟨w.heap.size + 1, 8, none⟩) (by simp) (.int .i64 (2 + q + s * q))).setCell (p := ⟨w.heap.size + 1, 9, none⟩) (by simp) (.int .i64 (s * q))).setCell (p := ⟨w.heap.size + 1, 10, none⟩) (by simp) (.int .i64 (2 + q + s * q + s * q)))
  generalize (((((((((((w8.setCell ⟨w.heap.size + 1, 0, none⟩ (.int .i64 0)).setCell ⟨w.heap.size + 1, 1, none⟩ (.int .i64 1)).setCell ⟨w.heap.size + 1, 2, none⟩ (.int .i64 1)).setCell ⟨w.heap.size + 1, 3, none⟩ (.int .i64 1)).setCell ⟨w.heap.size + 1, 4, none⟩ (.int .i64 2)).setCell ⟨w.heap.size + 1, 5, none⟩ (.int .i64 q)).setCell ⟨w.heap.size + 1, 6, none⟩ (.int .i64 (2 + q))).setCell ⟨w.heap.size + 1, 7, none⟩ (.int .i64 (s * q))).setCell ⟨w.heap.size + 1, 8, none⟩ (.int .i64 (2 + q + s * q))).setCell ⟨w.heap.size + 1, 9, none⟩ (.int .i64 (s * q))).setCell ⟨w.heap.size + 1, 10, none⟩ (.int .i64 (2 + q + s * q + s * q))) = w9 at *
  have e0 : w9.cell? ⟨w.heap.size + 1, 0, none⟩ = some (.int .i64 0) := b9.cell 0
  have e1 : w9.cell? ⟨w.heap.size + 1, 1, none⟩ = some (.int .i64 1) := b9.cell 1
  have e2 : w9.cell? ⟨w.heap.size + 1, 2, none⟩ = some (.int .i64 1) := b9.cell 2
  have e3 : w9.cell? ⟨w.heap.size + 1, 3, none⟩ = some (.int .i64 1) := b9.cell 3
  have e4 : w9.cell? ⟨w.heap.size + 1, 4, none⟩ = some (.int .i64 2) := b9.cell 4
  have e5 : w9.cell? ⟨w.heap.size + 1, 5, none⟩ = some (.int .i64 q) := b9.cell 5
  have e6 : w9.cell? ⟨w.heap.size + 1, 6, none⟩ = some (.int .i64 (2 + q)) := b9.cell 6
  have e7 : w9.cell? ⟨w.heap.size + 1, 7, none⟩ = some (.int .i64 (s * q)) := b9.cell 7
  have e8 : w9.cell? ⟨w.heap.size + 1, 8, none⟩ = some (.int .i64 (2 + q + s * q)) := b9.cell 8
  have e9 : w9.cell? ⟨w.heap.size + 1, 9, none⟩ = some (.int .i64 (s * q)) := b9.cell 9
  have e10 : w9.cell? ⟨w.heap.size + 1, 10, none⟩ = some (.int .i64 (2 + q + s * q + s * q)) := b9.cell 10
  refine bodyPost_ret (v := mapV q s) ?_ rfl ⟨rfl, hb9⟩
  unfold mapV
  simp [results, Tryd.results84, go_sem, e0, e1, e2, e3, e4, e5, e6, e7, e8, e9, e10]
end Go.Proofs.YtpnodocjpedcmaaDoor.Prt

namespace Go.Proofs.YtpnodocjpedcmaaDoor.Prt
open Go.ChangeShapes Go.WideShapes Go.ChangeAt Go.RowKit Go.Proofs.YtpnodocjpedcmaaDoor.Kit

theorem isin_yes (x a b : Int) (w : World) (h : a ≤ x ∧ x ≤ b) : Calls Tryd.prog 96 #[.int .i64 x, .int .i64 a, .int .i64 b] w fun e w' => e = .returned (.bool true) ∧ w = w' := by
  have := isin_any x a b w
  rwa [decide_eq_true h] at this
theorem isin_no (x a b : Int) (w : World) (h : ¬ (a ≤ x ∧ x ≤ b)) : Calls Tryd.prog 96 #[.int .i64 x, .int .i64 a, .int .i64 b] w fun e w' => e = .returned (.bool false) ∧ w = w' := by
  have := isin_any x a b w
  rwa [decide_eq_false h] at this

theorem field3 (v0 v1 v2 v3 v4 v5 v6 v7 v8 v9 v10 : Value) (w : World) : (Instr.field 45 (.agg #[v0, v1, v2, v3, v4, v5, v6, v7, v8, v9, v10]) 3).run Tryd.prog w = .ok v10 w := by kernel_rfl

def mayB (S B s : Int) : Bool := decide ((128 ≤ S ∧ S ≤ 4096) ∧ (128 ≤ B ∧ B ≤ 4096) ∧ B % S = 0 ∧ (1 ≤ s ∧ s ≤ 4096) ∧ 2 + B / S + s * (B / S) + s * (B / S) ≤ 1048576)

set_option maxRecDepth 100000 in
set_option maxHeartbeats 1600000 in
theorem may_any (S B s : Int) (w : World) : Calls Tryd.prog 83 #[.agg #[.int .i64 S, .int .i64 B, .int .i64 s]] w (Gives (.bool (mayB S B s)) w) := by
  have hb0 : Below w.heap.size w (w.alloc (.cells #[.int .i64 S, .int .i64 B, .int .i64 s] 61)) := (Below.refl _ _).alloc (Nat.le_refl _) _
  have out : ∀ P : Prop, (mayB S B s = true → P) → ¬ P → mayB S B s = false := fun P h hn => by
    cases hm : mayB S B s with
    | false => rfl
    | true => exact absurd (h hm) hn
  have hd : mayB S B s = true → (128 ≤ S ∧ S ≤ 4096) ∧ (128 ≤ B ∧ B ≤ 4096) ∧ B % S = 0 ∧ (1 ≤ s ∧ s ≤ 4096) ∧ 2 + B / S + s * (B / S) + s * (B / S) ≤ 1048576 := fun h => of_decide_eq_true h
  by_cases h1 : 128 ≤ S ∧ S ≤ 4096
  · by_cases h2 : 128 ≤ B ∧ B ≤ 4096
    · by_cases h3 : B % S = 0
      · have q3 : (B % S == 0) = true := by simpa using h3
        by_cases h4 : 1 ≤ s ∧ s ≤ 4096
        · obtain ⟨q, hq⟩ : ∃ q, B / S = q := ⟨_, rfl⟩
          have gl := fun W => lay_any S B s q W h1 h2 h4 hq
          unfold mapV at gl
          have hf3 := field3
          have GL := Lib.hid gl
          by_cases h5 : 2 + q + s * q + s * q ≤ 1048576
          · have hm : mayB S B s = true := decide_eq_true ⟨h1, h2, h3, h4, by rw [hq]; exact h5⟩
            rw [hm]
            clear hm out hd hq h3 gl
            go_enter Tryd.func83, Tryd.ntmps83
            go_wp2_with (first
              | (go_at_call 96; refine (isin_yes _ _ _ _ (by omega)).mono ?_; rintro e w' ⟨rfl, rfl⟩)
              | (go_at_call 84; refine (GL.out _).mono ?_; rintro e w2 ⟨rfl, hb2⟩))
            go_ret
            exact ⟨rfl, hb0.trans (hb2.mono (by simp))⟩
          · have hm : mayB S B s = false := out _ hd (fun h => h5 (by have := h.2.2.2.2; rwa [hq] at this))
            rw [hm]
            clear hm out hd hq h3 gl
            go_enter Tryd.func83, Tryd.ntmps83
            have q5 : decide (2 + q + s * q + s * q ≤ 1048576) = false := by simpa using h5
            go_wp2_with (first
              | (go_at_call 96; refine (isin_yes _ _ _ _ (by omega)).mono ?_; rintro e w' ⟨rfl, rfl⟩)
              | (go_at_call 84; refine (GL.out _).mono ?_; rintro e w2 ⟨rfl, hb2⟩))
            go_ret
            exact ⟨rfl, hb0.trans (hb2.mono (by simp))⟩
        · have hm : mayB S B s = false := out _ hd (fun h => h4 h.2.2.2.1)
          rw [hm]
          clear hm out hd h3
          have H4 := Lib.hid h4
          clear h4
          go_enter Tryd.func83, Tryd.ntmps83
          go_wp2_with (first
            | (go_at_call 96; refine (isin_yes _ _ _ _ (by omega)).mono ?_; rintro e w' ⟨rfl, rfl⟩)
            | (go_at_call 96; refine (isin_no _ _ _ _ H4.out).mono ?_; rintro e w' ⟨rfl, rfl⟩))
          go_ret
          exact ⟨rfl, hb0⟩
      · have hm : mayB S B s = false := out _ hd (fun h => h3 h.2.2.1)
        have q3 : (B % S == 0) = false := by simpa using h3
        rw [hm]
        clear hm out hd h3
        go_enter Tryd.func83, Tryd.ntmps83
        go_wp2_with (go_at_call 96; refine (isin_yes _ _ _ _ (by omega)).mono ?_; rintro e w' ⟨rfl, rfl⟩)
        go_ret
        exact ⟨rfl, hb0⟩
    · have hm : mayB S B s = false := out _ hd (fun h => h2 h.2.1)
      rw [hm]
      clear hm out hd
      have H2 := Lib.hid h2
      clear h2
      go_enter Tryd.func83, Tryd.ntmps83
      go_wp2_with (first
        | (go_at_call 96; refine (isin_yes _ _ _ _ (by omega)).mono ?_; rintro e w' ⟨rfl, rfl⟩)
        | (go_at_call 96; refine (isin_no _ _ _ _ H2.out).mono ?_; rintro e w' ⟨rfl, rfl⟩))
      go_ret
      exact ⟨rfl, hb0⟩
  · have hm : mayB S B s = false := out _ hd (fun h => h1 h.1)
    rw [hm]
    clear hm out hd
    have H1 := Lib.hid h1
    clear h1
    go_enter Tryd.func83, Tryd.ntmps83
    go_wp2_with (go_at_call 96; refine (isin_no _ _ _ _ H1.out).mono ?_; rintro e w' ⟨rfl, rfl⟩)
    go_ret
    exact ⟨rfl, hb0⟩
end Go.Proofs.YtpnodocjpedcmaaDoor.Prt

namespace Go.Proofs.YtpnodocjpedcmaaDoor.Prt
open Go.ChangeShapes Go.WideShapes Go.ChangeAt Go.RowKit Go.Proofs.YtpnodocjpedcmaaDoor.Kit

set_option maxRecDepth 100000 in
set_option maxHeartbeats 3200000 in
theorem rmay_any (S B s : Int) (w : World) : Calls Tryd.prog 39 #[.agg #[.int .i64 S, .int .i64 B, .int .i64 s]] w (Gives (.bool (mayB S B s)) w) := by
  have hb0 : Below w.heap.size w (w.alloc (.cells #[.int .i64 S, .int .i64 B, .int .i64 s] 61)) := (Below.refl _ _).alloc (Nat.le_refl _) _
  have blk := Block.new w 61 #[.int .i64 S, .int .i64 B, .int .i64 s]
  have out : ∀ P : Prop, (mayB S B s = true → P) → ¬ P → mayB S B s = false := fun P h hn => by
    cases hm : mayB S B s with
    | false => rfl
    | true => exact absurd (h hm) hn
  have hd : mayB S B s = true → (128 ≤ S ∧ S ≤ 4096) ∧ (128 ≤ B ∧ B ≤ 4096) ∧ B % S = 0 ∧ (1 ≤ s ∧ s ≤ 4096) ∧ 2 + B / S + s * (B / S) + s * (B / S) ≤ 1048576 := fun h => of_decide_eq_true h
  by_cases h0 : S < 128
  · rw [out _ hd (by omega)]
    clear out hd blk
    go_enter Tryd.func39, Tryd.ntmps39
    go_wp2
    go_ret
    exact ⟨rfl, hb0⟩
  by_cases h1 : 4096 < S
  · rw [out _ hd (by omega)]
    clear out hd blk
    go_enter Tryd.func39, Tryd.ntmps39
    go_wp2
    go_ret
    exact ⟨rfl, hb0⟩
  by_cases h2 : B < 128
  · rw [out _ hd (by omega)]
    clear out hd blk
    go_enter Tryd.func39, Tryd.ntmps39
    go_wp2
    go_ret
    exact ⟨rfl, hb0⟩
  by_cases h3 : 4096 < B
  · rw [out _ hd (by omega)]
    clear out hd blk
    go_enter Tryd.func39, Tryd.ntmps39
    go_wp2
    go_ret
    exact ⟨rfl, hb0⟩
  by_cases h4 : s < 1
  · rw [out _ hd (by omega)]
    clear out hd blk
    go_enter Tryd.func39, Tryd.ntmps39
    go_wp2
    go_ret
    exact ⟨rfl, hb0⟩
  by_cases h5 : 4096 < s
  · rw [out _ hd (by omega)]
    clear out hd blk
    go_enter Tryd.func39, Tryd.ntmps39
    go_wp2
    go_ret
    exact ⟨rfl, hb0⟩
  by_cases h6 : B % S = 0
  · have q6 : (B % S != 0) = false := by simpa using h6
    obtain ⟨q, hq⟩ : ∃ q, B / S = q := ⟨_, rfl⟩
    have hqb : 0 ≤ q ∧ q ≤ 32 := by
      have h0 : 0 ≤ q := by rw [← hq]; exact Int.ediv_nonneg (by omega) (by omega)
      have h1 : q * S ≤ B := by rw [← hq]; exact Int.ediv_mul_le B (by omega)
      have h2 : q * 128 ≤ q * S := Int.mul_le_mul_of_nonneg_left (by omega) h0
      omega
    have hsq : 0 ≤ s * q ∧ s * q ≤ 131072 := by
      have h1 : s * q ≤ s * 32 := Int.mul_le_mul_of_nonneg_left hqb.2 (by omega)
      exact ⟨Int.mul_nonneg (by omega) hqb.1, by omega⟩
    have h2sq : 2 * s * q = s * q + s * q := by rw [Int.mul_assoc, Int.two_mul]
    obtain ⟨p, hp⟩ : ∃ p, 2 * s * q = p := ⟨_, rfl⟩
    have hpb : 0 ≤ p ∧ p ≤ 262144 := by omega
    have hwp : IntKind.i64.wrap p = p := IntWalk.i64_in _ (by omega)
    have c0 : (w.alloc (.cells #[.int .i64 S, .int .i64 B, .int .i64 s] 61)).cell? ⟨w.heap.size, 0, none⟩ = some (.int .i64 S) := blk.cell 0
    have c1 : (w.alloc (.cells #[.int .i64 S, .int .i64 B, .int .i64 s] 61)).cell? ⟨w.heap.size, 1, none⟩ = some (.int .i64 B) := blk.cell 1
    have c2 : (w.alloc (.cells #[.int .i64 S, .int .i64 B, .int .i64 s] 61)).cell? ⟨w.heap.size, 2, none⟩ = some (.int .i64 s) := blk.cell 2
    have e : mayB S B s = decide (2 + q + p ≤ 1048576) := by
      unfold mayB
      rw [hq]
      by_cases h7 : 2 + q + p ≤ 1048576
      · rw [decide_eq_true h7, decide_eq_true (show _ from ⟨by omega, by omega, h6, by omega, by omega⟩)]
      · rw [decide_eq_false h7, decide_eq_false (fun h => h7 (by have := h.2.2.2.2; omega))]
    rw [e]
    clear out hd blk h6 h2sq hsq e
    go_enter Tryd.func39, Tryd.ntmps39
    go_wp2_with fail
    go_quiet (fail)
    go_wp2_with fail
    go_ret
    exact ⟨rfl, below_draws hb0 _⟩
  · have q6 : (B % S != 0) = true := by simpa using h6
    rw [out _ hd (by omega)]
    clear out hd blk h6
    go_enter Tryd.func39, Tryd.ntmps39
    go_wp2
    go_ret
    exact ⟨rfl, hb0⟩
end Go.Proofs.YtpnodocjpedcmaaDoor.Prt

namespace Go.Proofs.YtpnodocjpedcmaaDoor.Prt
open Go.ChangeShapes Go.WideShapes Go.ChangeAt Go.RowKit Go.Proofs.YtpnodocjpedcmaaDoor.Kit

theorem q_bd (S B s q : Int) (hS : 128 ≤ S ∧ S ≤ 4096) (hB : 128 ≤ B ∧ B ≤ 4096) (hs : 1 ≤ s ∧ s ≤ 4096) (hq : B / S = q) : (1 ≤ S → 0 ≤ q ∧ q ≤ 32) ∧ 0 ≤ s * q ∧ s * q ≤ 131072 := by
  have h0 : 0 ≤ q := by rw [← hq]; exact Int.ediv_nonneg (by omega) (by omega)
  have h1 : q * S ≤ B := by rw [← hq]; exact Int.ediv_mul_le B (by omega)
  have h2 : q * 128 ≤ q * S := Int.mul_le_mul_of_nonneg_left hS.1 h0
  have h3 : s * q ≤ s * 32 := Int.mul_le_mul_of_nonneg_left (show q ≤ 32 by omega) (by omega)
  exact ⟨fun _ => ⟨h0, by omega⟩, Int.mul_nonneg (by omega) h0, by omega⟩

set_option maxRecDepth 100000 in
set_option maxHeartbeats 1600000 in
theorem rlayout_any (S B s q : Int) (w : World) (hS : 128 ≤ S ∧ S ≤ 4096) (hB : 128 ≤ B ∧ B ≤ 4096) (hs : 1 ≤ s ∧ s ≤ 4096) (hq : B / S = q) :
    Calls Tryd.prog 27 #[.agg #[.int .i64 S, .int .i64 B, .int .i64 s]] w (Gives (mapV q s) w) := by
  obtain ⟨hqb, hsq⟩ := q_bd S B s q hS hB hs hq
  have hqb := hqb (by omega)
  obtain ⟨p, hp⟩ : ∃ p, s * q = p := ⟨_, rfl⟩
  unfold mapV
  rw [hp] at hsq ⊢
  have hp2 : q * s = p := by rw [Int.mul_comm]; exact hp
  have hwp : IntKind.i64.wrap p = p := IntWalk.i64_in _ (by omega)
  have hall : 2 + q + 2 * p = 2 + q + p + p := by omega
  clear hp
  go_enter Tryd.func27, Tryd.ntmps27
  go_wp2
  have blk := Block.new (w.alloc (.cells #[.int .i64 S, .int .i64 B, .int .i64 s] 61)) 45 #[.int .i64 0, .int .i64 1, .int .i64 1, .int .i64 1, .int .i64 2, .int .i64 q, .int .i64 (2 + q), .int .i64 p, .int .i64 (2 + q + p), .int .i64 p, .int .i64 (2 + q + p + p)]
  have hb : Below w.heap.size w ((w.alloc (.cells #[.int .i64 S, .int .i64 B, .int .i64 s] 61)).alloc (.cells #[.int .i64 0, .int .i64 1, .int .i64 1, .int .i64 1, .int .i64 2, .int .i64 q, .int .i64 (2 + q), .int .i64 p, .int .i64 (2 + q + p), .int .i64 p, .int .i64 (2 + q + p + p)] 45)) := ((Below.refl _ _).alloc (Nat.le_refl _) _).alloc (by simp) _
  generalize (w.alloc (.cells #[.int .i64 S, .int .i64 B, .int .i64 s] 61)).alloc (.cells #[.int .i64 0, .int .i64 1, .int .i64 1, .int .i64 1, .int .i64 2, .int .i64 q, .int .i64 (2 + q), .int .i64 p, .int .i64 (2 + q + p), .int .i64 p, .int .i64 (2 + q + p + p)] 45) = w9 at *
  have hsz : (w.alloc (.cells #[.int .i64 S, .int .i64 B, .int .i64 s] 61)).heap.size = w.heap.size + 1 := by simp
  rw [hsz] at blk
  have e0 : w9.cell? ⟨w.heap.size + 1, 0, none⟩ = some (.int .i64 0) := blk.cell 0
  have e1 : w9.cell? ⟨w.heap.size + 1, 1, none⟩ = some (.int .i64 1) := blk.cell 1
  have e2 : w9.cell? ⟨w.heap.size + 1, 2, none⟩ = some (.int .i64 1) := blk.cell 2
  have e3 : w9.cell? ⟨w.heap.size + 1, 3, none⟩ = some (.int .i64 1) := blk.cell 3
  have e4 : w9.cell? ⟨w.heap.size + 1, 4, none⟩ = some (.int .i64 2) := blk.cell 4
  have e5 : w9.cell? ⟨w.heap.size + 1, 5, none⟩ = some (.int .i64 q) := blk.cell 5
  have e6 : w9.cell? ⟨w.heap.size + 1, 6, none⟩ = some (.int .i64 (2 + q)) := blk.cell 6
  have e7 : w9.cell? ⟨w.heap.size + 1, 7, none⟩ = some (.int .i64 p) := blk.cell 7
  have e8 : w9.cell? ⟨w.heap.size + 1, 8, none⟩ = some (.int .i64 (2 + q + p)) := blk.cell 8
  have e9 : w9.cell? ⟨w.heap.size + 1, 9, none⟩ = some (.int .i64 p) := blk.cell 9
  have e10 : w9.cell? ⟨w.heap.size + 1, 10, none⟩ = some (.int .i64 (2 + q + p + p)) := blk.cell 10
  refine bodyPost_ret (v := .agg #[.int .i64 0, .int .i64 1, .int .i64 1, .int .i64 1, .int .i64 2, .int .i64 q, .int .i64 (2 + q), .int .i64 p, .int .i64 (2 + q + p), .int .i64 p, .int .i64 (2 + q + p + p)]) ?_ rfl ⟨rfl, hb⟩
  simp [results, Tryd.results27, go_sem, e0, e1, e2, e3, e4, e5, e6, e7, e8, e9, e10]

theorem may_facts {S B s : Int} (h : mayB S B s = true) : (128 ≤ S ∧ S ≤ 4096) ∧ (128 ≤ B ∧ B ≤ 4096) ∧ (1 ≤ s ∧ s ≤ 4096) := by
  have := of_decide_eq_true h
  exact ⟨this.1, this.2.1, this.2.2.2.1⟩

def zeroMap : Value := .agg #[.int .i64 0, .int .i64 0, .int .i64 0, .int .i64 0, .int .i64 0, .int .i64 0, .int .i64 0, .int .i64 0, .int .i64 0, .int .i64 0, .int .i64 0]

set_option maxRecDepth 100000 in
set_option maxHeartbeats 1600000 in
theorem layout_no (S B s : Int) (w : World) (h : mayB S B s = false) : Calls Tryd.prog 56 #[.agg #[.int .i64 S, .int .i64 B, .int .i64 s]] w (Gives (.tuple #[zeroMap, .int .i64 1]) w) := by
  have gm := fun W => may_any S B s W
  rw [h] at gm
  have GM := Lib.hid gm
  clear gm h
  unfold zeroMap
  have br : Block ((w.alloc (.cells #[.int .i64 S, .int .i64 B, .int .i64 s] 61)).alloc (.cells #[.int .i64 0, .int .i64 0, .int .i64 0, .int .i64 0, .int .i64 0, .int .i64 0, .int .i64 0, .int .i64 0, .int .i64 0, .int .i64 0, .int .i64 0] 45)) (w.heap.size + 1) 45 #[.int .i64 0, .int .i64 0, .int .i64 0, .int .i64 0, .int .i64 0, .int .i64 0, .int .i64 0, .int .i64 0, .int .i64 0, .int .i64 0, .int .i64 0] := by
    have := Block.new (w.alloc (.cells #[.int .i64 S, .int .i64 B, .int .i64 s] 61)) 45 #[.int .i64 0, .int .i64 0, .int .i64 0, .int .i64 0, .int .i64 0, .int .i64 0, .int .i64 0, .int .i64 0, .int .i64 0, .int .i64 0, .int .i64 0]
    simpa using this
  have bc := (Block.new w 61 #[.int .i64 S, .int .i64 B, .int .i64 s]).alloc (.cells #[.int .i64 0, .int .i64 0, .int .i64 0, .int .i64 0, .int .i64 0, .int .i64 0, .int .i64 0, .int .i64 0, .int .i64 0, .int .i64 0, .int .i64 0] 45)
  have hb : Below w.heap.size w ((w.alloc (.cells #[.int .i64 S, .int .i64 B, .int .i64 s] 61)).alloc (.cells #[.int .i64 0, .int .i64 0, .int .i64 0, .int .i64 0, .int .i64 0, .int .i64 0, .int .i64 0, .int .i64 0, .int .i64 0, .int .i64 0, .int .i64 0] 45)) := ((Below.refl _ _).alloc (Nat.le_refl _) _).alloc (by simp) _
  go_enter Tryd.func56, Tryd.ntmps56
  go_wp2_with fail
  have hsz : ((w.alloc (.cells #[.int .i64 S, .int .i64 B, .int .i64 s] 61)).alloc (.cells #[.int .i64 0, .int .i64 0, .int .i64 0, .int .i64 0, .int .i64 0, .int .i64 0, .int .i64 0, .int .i64 0, .int .i64 0, .int .i64 0, .int .i64 0] 45)).heap.size = w.heap.size + 2 := by simp
  generalize (w.alloc (.cells #[.int .i64 S, .int .i64 B, .int .i64 s] 61)).alloc (.cells #[.int .i64 0, .int .i64 0, .int .i64 0, .int .i64 0, .int .i64 0, .int .i64 0, .int .i64 0, .int .i64 0, .int .i64 0, .int .i64 0, .int .i64 0] 45) = w1 at *
  have Hsz := Lib.hid hsz
  clear hsz
  refine (GM.out _).mono ?_
  rintro e w2 ⟨rfl, hb2⟩
  have br2 := br.below hb2 (by rw [Hsz.out]; omega)
  have hb12 := hb.trans (hb2.mono hb.size)
  clear br bc hb hb2
  have z0 : w2.cell? ⟨w.heap.size + 1, 0, none⟩ = some (.int .i64 0) := br2.cell 0
  have z1 : w2.cell? ⟨w.heap.size + 1, 1, none⟩ = some (.int .i64 0) := br2.cell 1
  have z2 : w2.cell? ⟨w.heap.size + 1, 2, none⟩ = some (.int .i64 0) := br2.cell 2
  have z3 : w2.cell? ⟨w.heap.size + 1, 3, none⟩ = some (.int .i64 0) := br2.cell 3
  have z4 : w2.cell? ⟨w.heap.size + 1, 4, none⟩ = some (.int .i64 0) := br2.cell 4
  have z5 : w2.cell? ⟨w.heap.size + 1, 5, none⟩ = some (.int .i64 0) := br2.cell 5
  have z6 : w2.cell? ⟨w.heap.size + 1, 6, none⟩ = some (.int .i64 0) := br2.cell 6
  have z7 : w2.cell? ⟨w.heap.size + 1, 7, none⟩ = some (.int .i64 0) := br2.cell 7
  have z8 : w2.cell? ⟨w.heap.size + 1, 8, none⟩ = some (.int .i64 0) := br2.cell 8
  have z9 : w2.cell? ⟨w.heap.size + 1, 9, none⟩ = some (.int .i64 0) := br2.cell 9
  have z10 : w2.cell? ⟨w.heap.size + 1, 10, none⟩ = some (.int .i64 0) := br2.cell 10
  have ff := fun i => br2.frozen i
  go_wp2_with fail
  have b9 := (((((((((((br2.set_ 0 (.int .i64 0)).set_ 1 (.int .i64 0)).set_ 2 (.int .i64 0)).set_ 3 (.int .i64 0)).set_ 4 (.int .i64 0)).set_ 5 (.int .i64 0)).set_ 6 (.int .i64 0)).set_ 7 (.int .i64 0)).set_ 8 (.int .i64 0)).set_ 9 (.int .i64 0)).set_ 10 (.int .i64 0))
  have hb9 := (((((((((((hb12.setCell (p := ⟨w.heap.size + 1, 0, none⟩) (by simp) (.int .i64 0)).setCell (p := ⟨w.heap.size + 1, 1, none⟩) (by simp) (.int .i64 0)).setCell (p := ⟨w.heap.size + 1, 2, none⟩) (by simp) (.int .i64 0)).setCell (p := ⟨w.heap.size + 1, 3, none⟩) (by simp) (.int .i64 0)).setCell (p := ⟨w.heap.size + 1, 4, none⟩) (by simp) (.int .i64 0)).setCell (p := ⟨w.heap.size + 1, 5, none⟩) (by simp) (.int .i64 0)).setCell (p := ⟨w.heap.size + 1, 6, none⟩) (by simp) (.int .i64 0)).setCell (p := ⟨w.heap.size + 1, 7, none⟩) (by simp) (.int .i64 0)).setCell (p := ⟨w.heap.size + 1, 8, none⟩) (by simp) (.int .i64 0)).setCell (p := ⟨w.heap.size + 1, 9, none⟩) (by simp) (.int .i64 0)).setCell (p := ⟨w.heap.size + 1, 10, none⟩) (by simp) (.int .i64 0))
  generalize (((((((((((w2.setCell ⟨w.heap.size + 1, 0, none⟩ (.int .i64 0)).setCell ⟨w.heap.size + 1, 1, none⟩ (.int .i64 0)).setCell ⟨w.heap.size + 1, 2, none⟩ (.int .i64 0)).setCell ⟨w.heap.size + 1, 3, none⟩ (.int .i64 0)).setCell ⟨w.heap.size + 1, 4, none⟩ (.int .i64 0)).setCell ⟨w.heap.size + 1, 5, none⟩ (.int .i64 0)).setCell ⟨w.heap.size + 1, 6, none⟩ (.int .i64 0)).setCell ⟨w.heap.size + 1, 7, none⟩ (.int .i64 0)).setCell ⟨w.heap.size + 1, 8, none⟩ (.int .i64 0)).setCell ⟨w.heap.size + 1, 9, none⟩ (.int .i64 0)).setCell ⟨w.heap.size + 1, 10, none⟩ (.int .i64 0)) = w9 at *
  have e0 : w9.cell? ⟨w.heap.size + 1, 0, none⟩ = some (.int .i64 0) := b9.cell 0
  have e1 : w9.cell? ⟨w.heap.size + 1, 1, none⟩ = some (.int .i64 0) := b9.cell 1
  have e2 : w9.cell? ⟨w.heap.size + 1, 2, none⟩ = some (.int .i64 0) := b9.cell 2
  have e3 : w9.cell? ⟨w.heap.size + 1, 3, none⟩ = some (.int .i64 0) := b9.cell 3
  have e4 : w9.cell? ⟨w.heap.size + 1, 4, none⟩ = some (.int .i64 0) := b9.cell 4
  have e5 : w9.cell? ⟨w.heap.size + 1, 5, none⟩ = some (.int .i64 0) := b9.cell 5
  have e6 : w9.cell? ⟨w.heap.size + 1, 6, none⟩ = some (.int .i64 0) := b9.cell 6
  have e7 : w9.cell? ⟨w.heap.size + 1, 7, none⟩ = some (.int .i64 0) := b9.cell 7
  have e8 : w9.cell? ⟨w.heap.size + 1, 8, none⟩ = some (.int .i64 0) := b9.cell 8
  have e9 : w9.cell? ⟨w.heap.size + 1, 9, none⟩ = some (.int .i64 0) := b9.cell 9
  have e10 : w9.cell? ⟨w.heap.size + 1, 10, none⟩ = some (.int .i64 0) := b9.cell 10
  refine bodyPost_ret (v := .tuple #[.agg #[.int .i64 0, .int .i64 0, .int .i64 0, .int .i64 0, .int .i64 0, .int .i64 0, .int .i64 0, .int .i64 0, .int .i64 0, .int .i64 0, .int .i64 0], .int .i64 1]) ?_ rfl ⟨rfl, hb9⟩
  simp [results, Tryd.results56, go_sem, e0, e1, e2, e3, e4, e5, e6, e7, e8, e9, e10]

set_option maxRecDepth 100000 in
set_option maxHeartbeats 1600000 in
theorem layout_yes (S B s q : Int) (w : World) (h : mayB S B s = true) (hq : B / S = q) : Calls Tryd.prog 56 #[.agg #[.int .i64 S, .int .i64 B, .int .i64 s]] w (Gives (.tuple #[mapV q s, .int .i64 0]) w) := by
  have gm := fun W => may_any S B s W
  obtain ⟨hS, hB, hs⟩ := may_facts h
  rw [h] at gm
  have GM := Lib.hid gm
  have gl := fun W => lay_any S B s q W hS hB hs hq
  unfold mapV at gl ⊢
  have GL := Lib.hid gl
  clear gm h gl hq hS hB hs
  have br : Block ((w.alloc (.cells #[.int .i64 S, .int .i64 B, .int .i64 s] 61)).alloc (.cells #[.int .i64 0, .int .i64 0, .int .i64 0, .int .i64 0, .int .i64 0, .int .i64 0, .int .i64 0, .int .i64 0, .int .i64 0, .int .i64 0, .int .i64 0] 45)) (w.heap.size + 1) 45 #[.int .i64 0, .int .i64 0, .int .i64 0, .int .i64 0, .int .i64 0, .int .i64 0, .int .i64 0, .int .i64 0, .int .i64 0, .int .i64 0, .int .i64 0] := by
    have := Block.new (w.alloc (.cells #[.int .i64 S, .int .i64 B, .int .i64 s] 61)) 45 #[.int .i64 0, .int .i64 0, .int .i64 0, .int .i64 0, .int .i64 0, .int .i64 0, .int .i64 0, .int .i64 0, .int .i64 0, .int .i64 0, .int .i64 0]
    simpa using this
  have bc := (Block.new w 61 #[.int .i64 S, .int .i64 B, .int .i64 s]).alloc (.cells #[.int .i64 0, .int .i64 0, .int .i64 0, .int .i64 0, .int .i64 0, .int .i64 0, .int .i64 0, .int .i64 0, .int .i64 0, .int .i64 0, .int .i64 0] 45)
  have hb : Below w.heap.size w ((w.alloc (.cells #[.int .i64 S, .int .i64 B, .int .i64 s] 61)).alloc (.cells #[.int .i64 0, .int .i64 0, .int .i64 0, .int .i64 0, .int .i64 0, .int .i64 0, .int .i64 0, .int .i64 0, .int .i64 0, .int .i64 0, .int .i64 0] 45)) := ((Below.refl _ _).alloc (Nat.le_refl _) _).alloc (by simp) _
  go_enter Tryd.func56, Tryd.ntmps56
  go_wp2_with fail
  have hsz : ((w.alloc (.cells #[.int .i64 S, .int .i64 B, .int .i64 s] 61)).alloc (.cells #[.int .i64 0, .int .i64 0, .int .i64 0, .int .i64 0, .int .i64 0, .int .i64 0, .int .i64 0, .int .i64 0, .int .i64 0, .int .i64 0, .int .i64 0] 45)).heap.size = w.heap.size + 2 := by simp
  generalize (w.alloc (.cells #[.int .i64 S, .int .i64 B, .int .i64 s] 61)).alloc (.cells #[.int .i64 0, .int .i64 0, .int .i64 0, .int .i64 0, .int .i64 0, .int .i64 0, .int .i64 0, .int .i64 0, .int .i64 0, .int .i64 0, .int .i64 0] 45) = w1 at *
  have Hsz := Lib.hid hsz
  clear hsz
  refine (GM.out _).mono ?_
  rintro e w2 ⟨rfl, hb2⟩
  have br1 := br.below hb2 (by rw [Hsz.out]; omega)
  have bc1 := bc.below hb2 (by rw [Hsz.out]; omega)
  have hb11 := hb.trans (hb2.mono hb.size)
  have hs2 : w.heap.size + 2 ≤ w2.heap.size := by have := hb2.size; rw [Hsz.out] at this; exact this
  have c0 : w2.cell? ⟨w.heap.size, 0, none⟩ = some (.int .i64 S) := bc1.cell 0
  have c1 : w2.cell? ⟨w.heap.size, 1, none⟩ = some (.int .i64 B) := bc1.cell 1
  have c2 : w2.cell? ⟨w.heap.size, 2, none⟩ = some (.int .i64 s) := bc1.cell 2
  clear br bc hb hb2 bc1
  go_wp2_with fail
  refine (GL.out _).mono ?_
  rintro e w3 ⟨rfl, hb3⟩
  have br2 := br1.below hb3 (by omega)
  have hb12 := hb11.trans (hb3.mono hb11.size)
  clear br1 hb11 hb3 c0 c1 c2
  have z0 : w3.cell? ⟨w.heap.size + 1, 0, none⟩ = some (.int .i64 0) := br2.cell 0
  have z1 : w3.cell? ⟨w.heap.size + 1, 1, none⟩ = some (.int .i64 0) := br2.cell 1
  have z2 : w3.cell? ⟨w.heap.size + 1, 2, none⟩ = some (.int .i64 0) := br2.cell 2
  have z3 : w3.cell? ⟨w.heap.size + 1, 3, none⟩ = some (.int .i64 0) := br2.cell 3
  have z4 : w3.cell? ⟨w.heap.size + 1, 4, none⟩ = some (.int .i64 0) := br2.cell 4
  have z5 : w3.cell? ⟨w.heap.size + 1, 5, none⟩ = some (.int .i64 0) := br2.cell 5
  have z6 : w3.cell? ⟨w.heap.size + 1, 6, none⟩ = some (.int .i64 0) := br2.cell 6
  have z7 : w3.cell? ⟨w.heap.size + 1, 7, none⟩ = some (.int .i64 0) := br2.cell 7
  have z8 : w3.cell? ⟨w.heap.size + 1, 8, none⟩ = some (.int .i64 0) := br2.cell 8
  have z9 : w3.cell? ⟨w.heap.size + 1, 9, none⟩ = some (.int .i64 0) := br2.cell 9
  have z10 : w3.cell? ⟨w.heap.size + 1, 10, none⟩ = some (.int .i64 0) := br2.cell 10
  have ff := fun i => br2.frozen i
  go_wp2_with fail
  have b9 := (((((((((((br2.set_ 0 (.int .i64 0)).set_ 1 (.int .i64 1)).set_ 2 (.int .i64 1)).set_ 3 (.int .i64 1)).set_ 4 (.int .i64 2)).set_ 5 (.int .i64 q)).set_ 6 (.int .i64 (2 + q))).set_ 7 (.int .i64 (s * q))).set_ 8 (.int .i64 (2 + q + s * q))).set_ 9 (.int .i64 (s * q))).set_ 10 (.int .i64 (2 + q + s * q + s * q)))
  have hb9 := (((((((((((hb12.setCell (p := ⟨w.heap.size + 1, 0, none⟩) (by simp) (.int .i64 0)).setCell (p := ⟨w.heap.size + 1, 1, none⟩) (by simp) (.int .i64 1)).setCell (p := ⟨w.heap.size + 1, 2, none⟩) (by simp) (.int .i64 1)).setCell (p := ⟨w.heap.size + 1, 3, none⟩) (by simp) (.int .i64 1)).setCell (p := ⟨w.heap.size + 1, 4, none⟩) (by simp) (.int .i64 2)).setCell (p := ⟨w.heap.size + 1, 5, none⟩) (by simp) (.int .i64 q)).setCell (p := ⟨w.heap.size + 1, 6, none⟩) (by simp) (.int .i64 (2 + q))).setCell (p := ⟨w.heap.size + 1, 7, none⟩) (by simp) (.int .i64 (s * q))).setCell (p := ⟨w.heap.size + 1, 8, none⟩) (by simp) (.int .i64 (2 + q + s * q))).setCell (p := ⟨w.heap.size + 1, 9, none⟩) (by simp) (.int .i64 (s * q))).setCell (p := ⟨w.heap.size + 1, 10, none⟩) (by simp) (.int .i64 (2 + q + s * q + s * q)))
  generalize (((((((((((w3.setCell ⟨w.heap.size + 1, 0, none⟩ (.int .i64 0)).setCell ⟨w.heap.size + 1, 1, none⟩ (.int .i64 1)).setCell ⟨w.heap.size + 1, 2, none⟩ (.int .i64 1)).setCell ⟨w.heap.size + 1, 3, none⟩ (.int .i64 1)).setCell ⟨w.heap.size + 1, 4, none⟩ (.int .i64 2)).setCell ⟨w.heap.size + 1, 5, none⟩ (.int .i64 q)).setCell ⟨w.heap.size + 1, 6, none⟩ (.int .i64 (2 + q))).setCell ⟨w.heap.size + 1, 7, none⟩ (.int .i64 (s * q))).setCell ⟨w.heap.size + 1, 8, none⟩ (.int .i64 (2 + q + s * q))).setCell ⟨w.heap.size + 1, 9, none⟩ (.int .i64 (s * q))).setCell ⟨w.heap.size + 1, 10, none⟩ (.int .i64 (2 + q + s * q + s * q))) = w9 at *
  have e0 : w9.cell? ⟨w.heap.size + 1, 0, none⟩ = some (.int .i64 0) := b9.cell 0
  have e1 : w9.cell? ⟨w.heap.size + 1, 1, none⟩ = some (.int .i64 1) := b9.cell 1
  have e2 : w9.cell? ⟨w.heap.size + 1, 2, none⟩ = some (.int .i64 1) := b9.cell 2
  have e3 : w9.cell? ⟨w.heap.size + 1, 3, none⟩ = some (.int .i64 1) := b9.cell 3
  have e4 : w9.cell? ⟨w.heap.size + 1, 4, none⟩ = some (.int .i64 2) := b9.cell 4
  have e5 : w9.cell? ⟨w.heap.size + 1, 5, none⟩ = some (.int .i64 q) := b9.cell 5
  have e6 : w9.cell? ⟨w.heap.size + 1, 6, none⟩ = some (.int .i64 (2 + q)) := b9.cell 6
  have e7 : w9.cell? ⟨w.heap.size + 1, 7, none⟩ = some (.int .i64 (s * q)) := b9.cell 7
  have e8 : w9.cell? ⟨w.heap.size + 1, 8, none⟩ = some (.int .i64 (2 + q + s * q)) := b9.cell 8
  have e9 : w9.cell? ⟨w.heap.size + 1, 9, none⟩ = some (.int .i64 (s * q)) := b9.cell 9
  have e10 : w9.cell? ⟨w.heap.size + 1, 10, none⟩ = some (.int .i64 (2 + q + s * q + s * q)) := b9.cell 10
  refine bodyPost_ret (v := .tuple #[.agg #[.int .i64 0, .int .i64 1, .int .i64 1, .int .i64 1, .int .i64 2, .int .i64 q, .int .i64 (2 + q), .int .i64 (s * q), .int .i64 (2 + q + s * q), .int .i64 (s * q), .int .i64 (2 + q + s * q + s * q)], .int .i64 0]) ?_ rfl ⟨rfl, hb9⟩
  simp [results, Tryd.results56, go_sem, e0, e1, e2, e3, e4, e5, e6, e7, e8, e9, e10]
end Go.Proofs.YtpnodocjpedcmaaDoor.Prt

namespace Go.Proofs.YtpnodocjpedcmaaDoor.Kit
open Go.ChangeShapes Go.WideShapes Go.ChangeAt Go.RowKit

theorem wp_exits {P : Program} {o : Oper} {a : Act} {w : World} {K : Act → World → Prop} {Q Q' : Exit → Act → World → Prop} (h : ∀ e a w, Q e a w → Q' e a w) (hh : o.wp P a w K Q) : o.wp P a w K Q' := by
  unfold Oper.wp at *
  generalize (execOp a.eval o).run P w = r at *
  cases r with
  | ok n w' =>
    cases n <;> simp only [Oper.upon] at hh ⊢ <;>
      first
        | exact hh
        | exact Calls.mono hh (fun e w'' he => by
            cases e with
            | returned v => exact he
            | panicked c => exact h _ _ _ he
            | outgrown => obtain ⟨a, w, he⟩ := he; exact ⟨a, w, h _ _ _ he⟩)
  | halt x w' => cases x <;> simp only [Oper.upon] at hh ⊢ <;> first | exact hh | exact h _ _ _ hh

/-- K behind the operation, Q at a panic, and never out of room. -/
def Behind (K : Act → World → Prop) (Q : Exit → Act → World → Prop) : Exit → Act → World → Prop
  | .normal, a, w => K a w
  | .outgrown, _, _ => False
  | e, a, w => Q e a w

theorem step_of_list {P : Program} {ops : Array Oper} {o : Oper} {a : Act} {w : World} {K : Act → World → Prop} {Q : Exit → Act → World → Prop} {E : Prop}
    (hw : Region.wanted o (yielded ops a.tmps) = true) (h : ∀ Q', (∀ a w, K a w → wpList P ops Q' [] a w) → wpList P ops Q' [o] a w) :
    if Region.wanted o (yielded ops a.tmps) = true then Oper.wp P o a w K Q else E := by
  rw [if_pos hw]
  have h1 := h (Behind K Q) (fun _ _ h => h)
  unfold wpList at h1
  rw [if_pos hw] at h1
  rcases h1 with h1 | ⟨_, a', w', h2⟩
  · unfold Oper.wp at *
    generalize (execOp a.eval o).run P w = r at *
    cases r with
    | ok n w' =>
      cases n <;> simp only [Oper.upon] at h1 ⊢ <;>
        first
          | exact h1
          | exact Calls.mono h1 (fun e w'' he => by
              cases e with
              | returned v => exact he
              | panicked c => exact he
              | outgrown => obtain ⟨_, _, he⟩ := he; exact (he : False).elim)
    | halt x w' => cases x <;> simp only [Oper.upon] at h1 ⊢ <;> exact h1
  · exact (h2 : False).elim
end Go.Proofs.YtpnodocjpedcmaaDoor.Kit

namespace Go.Proofs.YtpnodocjpedcmaaDoor.Prt
open Go.ChangeShapes Go.WideShapes Go.ChangeAt Go.RowKit Go.Proofs.YtpnodocjpedcmaaDoor.Kit

theorem eq_region (d : Nat) (a b : Int) (w : World) : (Op.equalIn (d + 2) 42 (.agg #[.int .i64 a, .int .i64 b]) (.agg #[.int .i64 a, .int .i64 b])).run Tryd.prog w = .ok true w := by
  have hf : (Tryd.prog.fieldsOf 42).toList.map (fun f => (f.name != "_", f.type, f.offset)) = [(true, 3, 0), (true, 3, 1)] := by kernel_rfl
  have p0 : (part 3 #[.int .i64 a, .int .i64 b] 0).run Tryd.prog w = .ok (.int .i64 a) w := by kernel_rfl
  have p1 : (part 3 #[.int .i64 a, .int .i64 b] 1).run Tryd.prog w = .ok (.int .i64 b) w := by kernel_rfl
  rw [run_equalIn_struct w (d + 1) _ _ _ (by kernel_rfl) (by kernel_rfl)]
  generalize (Tryd.prog.fieldsOf 42).toList = fs at *
  match fs, (show fs.length = 2 by simpa using congrArg List.length hf), hf with
  | [f0, f1], _, hf =>
    simp at hf
    obtain ⟨⟨n0, t0, o0⟩, ⟨n1, t1, o1⟩⟩ := hf
    have q0 := run_equalIn_int (P := Tryd.prog) w d 3 .i64 .i64 a a Tryd.underlying3
    have q1 := run_equalIn_int (P := Tryd.prog) w d 3 .i64 .i64 b b Tryd.underlying3
    simp [Op.eqFields, n0, n1, t0, t1, o0, o1, p0, p1, q0, q1]

theorem eq_two (d : Nat) (a b c e : Int) (w : World) : (Op.equalIn (d + 3) 43 (.agg #[.int .i64 a, .int .i64 b, .int .i64 c, .int .i64 e]) (.agg #[.int .i64 a, .int .i64 b, .int .i64 c, .int .i64 e])).run Tryd.prog w = .ok true w := by
  obtain ⟨i, hi⟩ : ∃ i, Tryd.prog.info? 42 = some i := Option.isSome_iff_exists.1 (by kernel_rfl)
  have hu : Tryd.prog.underlying 43 = some (.array 2 42) := by kernel_rfl
  have hc : Tryd.prog.cellsOf 42 = 2 := by kernel_rfl
  rw [run_equalIn_array (P := Tryd.prog) (w := w) (d + 2) _ _ hu hi, hc]
  have p0 : (part 42 #[.int .i64 a, .int .i64 b, .int .i64 c, .int .i64 e] (0 * 2)).run Tryd.prog w = .ok (.agg #[.int .i64 a, .int .i64 b]) w := by kernel_rfl
  have p1 : (part 42 #[.int .i64 a, .int .i64 b, .int .i64 c, .int .i64 e] (1 * 2)).run Tryd.prog w = .ok (.agg #[.int .i64 c, .int .i64 e]) w := by kernel_rfl
  have q0 := eq_region d a b w
  have q1 := eq_region d c e w
  rw [show List.range 2 = [0, 1] from rfl]
  simp only [Op.eqItems, Sem.run_bind, p0, p1, q0, q1, Result.andThen_ok, Bool.not_true, Bool.false_eq_true, if_false, Sem.run_pure]

theorem eq_map (v0 v1 v2 v3 v4 v5 v6 v7 v8 v9 v10 : Int) (w : World) :
    (binOp .eql 45 (.agg #[.int .i64 v0, .int .i64 v1, .int .i64 v2, .int .i64 v3, .int .i64 v4, .int .i64 v5, .int .i64 v6, .int .i64 v7, .int .i64 v8, .int .i64 v9, .int .i64 v10])
      (.agg #[.int .i64 v0, .int .i64 v1, .int .i64 v2, .int .i64 v3, .int .i64 v4, .int .i64 v5, .int .i64 v6, .int .i64 v7, .int .i64 v8, .int .i64 v9, .int .i64 v10])).run Tryd.prog w = .ok (.bool true) w := by
  have hf : (Tryd.prog.fieldsOf 45).toList.map (fun f => (f.name != "_", f.type, f.offset)) = [(true, 43, 0), (true, 42, 4), (true, 43, 6), (true, 3, 10)] := by kernel_rfl
  have p0 : (part 43 #[.int .i64 v0, .int .i64 v1, .int .i64 v2, .int .i64 v3, .int .i64 v4, .int .i64 v5, .int .i64 v6, .int .i64 v7, .int .i64 v8, .int .i64 v9, .int .i64 v10] 0).run Tryd.prog w = .ok (.agg #[.int .i64 v0, .int .i64 v1, .int .i64 v2, .int .i64 v3]) w := by kernel_rfl
  have p1 : (part 42 #[.int .i64 v0, .int .i64 v1, .int .i64 v2, .int .i64 v3, .int .i64 v4, .int .i64 v5, .int .i64 v6, .int .i64 v7, .int .i64 v8, .int .i64 v9, .int .i64 v10] 4).run Tryd.prog w = .ok (.agg #[.int .i64 v4, .int .i64 v5]) w := by kernel_rfl
  have p2 : (part 43 #[.int .i64 v0, .int .i64 v1, .int .i64 v2, .int .i64 v3, .int .i64 v4, .int .i64 v5, .int .i64 v6, .int .i64 v7, .int .i64 v8, .int .i64 v9, .int .i64 v10] 6).run Tryd.prog w = .ok (.agg #[.int .i64 v6, .int .i64 v7, .int .i64 v8, .int .i64 v9]) w := by kernel_rfl
  have p3 : (part 3 #[.int .i64 v0, .int .i64 v1, .int .i64 v2, .int .i64 v3, .int .i64 v4, .int .i64 v5, .int .i64 v6, .int .i64 v7, .int .i64 v8, .int .i64 v9, .int .i64 v10] 10).run Tryd.prog w = .ok (.int .i64 v10) w := by kernel_rfl
  rw [run_eql_struct, run_equalIn_struct w 9999 _ _ _ (by kernel_rfl) (by kernel_rfl)]
  generalize (Tryd.prog.fieldsOf 45).toList = fs at *
  match fs, (show fs.length = 4 by simpa using congrArg List.length hf), hf with
  | [f0, f1, f2, f3], _, hf =>
    simp at hf
    obtain ⟨⟨n0, t0, o0⟩, ⟨n1, t1, o1⟩, ⟨n2, t2, o2⟩, ⟨n3, t3, o3⟩⟩ := hf
    have q0 := eq_two 9996 v0 v1 v2 v3 w
    have q1 := eq_region 9997 v4 v5 w
    have q2 := eq_two 9996 v6 v7 v8 v9 w
    have q3 := run_equalIn_int (P := Tryd.prog) w 9998 3 .i64 .i64 v10 v10 Tryd.underlying3
    simp [Op.eqFields, n0, n1, n2, n3, t0, t1, t2, t3, o0, o1, o2, o3, p0, p1, p2, p3, q0, q1, q2, q3]

end Go.Proofs.YtpnodocjpedcmaaDoor.Prt

namespace Go.Proofs.YtpnodocjpedcmaaDoor.Prt
open Go.ChangeShapes Go.WideShapes Go.ChangeAt Go.RowKit Go.Proofs.YtpnodocjpedcmaaDoor.Kit

theorem count_nil (w : World) : Calls Tryd.prog 58 #[.pointer none] w fun e w' => e = .returned (.int .i64 0) ∧ w' = w := by
  go_enter Tryd.func58, Tryd.ntmps58
  go_wp2
  go_ret
  exact ⟨rfl, rfl⟩

theorem size_nil (w : World) : Calls Tryd.prog 97 #[.pointer none] w fun e w' => e = .returned (.int .i64 0) ∧ w' = w := by
  go_enter Tryd.func97, Tryd.ntmps97
  go_wp2
  go_ret
  exact ⟨rfl, rfl⟩

theorem read_nil (at_ n : Int) (w : World) : Calls Tryd.prog 49 #[.pointer none, .int .i64 at_, .int .i64 n] w fun e w' => e = .returned (.tuple #[.slice none 0 0, .int .i64 1]) ∧ w' = w := by
  go_enter Tryd.func49, Tryd.ntmps49
  go_wp2
  go_ret2
  exact ⟨rfl, rfl⟩

theorem write_nil (at_ : Int) (v : Value) (w : World) : Calls Tryd.prog 54 #[.pointer none, .int .i64 at_, v] w fun e w' => e = .returned (.int .i64 1) ∧ w' = w := by
  go_enter Tryd.func54, Tryd.ntmps54
  go_wp2
  go_ret
  exact ⟨rfl, rfl⟩

set_option maxRecDepth 100000 in
set_option maxHeartbeats 1600000 in
theorem open_nil (F N : Int) (w : World) : Calls Tryd.prog 48 #[.pointer none, .agg #[.int .i64 F, .int .i64 N]] w (Gives (.tuple #[.pointer none, .int .i64 1]) w) := by
  have hb0 : Below w.heap.size w (w.alloc (.cells #[.int .i64 F, .int .i64 N] 42)) := (Below.refl _ _).alloc (Nat.le_refl _) _
  have blk := Block.new w 42 #[.int .i64 F, .int .i64 N]
  have c0 : (w.alloc (.cells #[.int .i64 F, .int .i64 N] 42)).cell? ⟨w.heap.size, 0, none⟩ = some (.int .i64 F) := blk.cell 0
  have c1 : (w.alloc (.cells #[.int .i64 F, .int .i64 N] 42)).cell? ⟨w.heap.size, 1, none⟩ = some (.int .i64 N) := blk.cell 1
  clear blk
  by_cases h0 : F < 0
  · have h0 : decide (F < 0) = true := decide_eq_true h0
    go_enter Tryd.func48, Tryd.ntmps48
    go_wp2_with fail
    go_quiet (fail)
    go_wp2_with fail
    go_ret2
    exact ⟨rfl, below_draws hb0 _⟩
  by_cases h1 : N < 1
  · have h0 : decide (F < 0) = false := decide_eq_false h0
    have h1 : decide (N < 1) = true := decide_eq_true h1
    go_enter Tryd.func48, Tryd.ntmps48
    go_wp2_with fail
    go_quiet (fail)
    go_wp2_with fail
    go_ret2
    exact ⟨rfl, below_draws hb0 _⟩
  have h2 : decide (0 < N) = true := decide_eq_true (by omega)
  have h0 : decide (F < 0) = false := decide_eq_false h0
  have h1 : decide (N < 1) = false := decide_eq_false h1
  have G := Lib.hid count_nil
  go_enter Tryd.func48, Tryd.ntmps48
  go_wp2_with fail
  go_quiet ((go_at_call 58; exact Calls.quiet_of_same (G.out _)))
  go_wp2_with fail
  go_ret2
  exact ⟨rfl, below_draws hb0 _⟩
end Go.Proofs.YtpnodocjpedcmaaDoor.Prt

namespace Go.Proofs.YtpnodocjpedcmaaDoor.Pt
open Go.ChangeShapes Go.WideShapes Go.ChangeAt Go.RowKit Go.Proofs.YtpnodocjpedcmaaDoor.Kit

theorem str_cut (xs : List Int) (lo hi : Nat) : (strOfNums xs).extract lo hi = strOfNums ((xs.drop lo).take (hi - lo)) := by
  apply ByteArray.ext
  rw [ByteArray.data_extract]
  apply Array.toList_inj.1
  unfold strOfNums
  simp [List.map_take, List.map_drop]
theorem str_join (xs ys : List Int) : strOfNums xs ++ strOfNums ys = strOfNums (xs ++ ys) := by
  apply ByteArray.ext
  rw [ByteArray.data_append]
  unfold strOfNums
  simp
end Go.Proofs.YtpnodocjpedcmaaDoor.Pt

namespace Go.Proofs.YtpnodocjpedcmaaDoor.Sha
open Go.ChangeShapes Go.WideShapes Go.ChangeAt Go.RowKit Go.Proofs.YtpnodocjpedcmaaDoor.Kit

/-- x with its bits moved n places down, round the end. -/
def rot (x : Int) (n : Nat) : Int := bits BinOp.or .u32 (x * 2 ^ (32 - n) % 4294967296) (x / 2 ^ n)

theorem low_five : ∀ n : Nat, n < 32 → 1 ≤ n → bits BinOp.and .u64 (IntKind.u64.wrap (-(n : Int))) 31 = ((32 - n : Nat) : Int) := by decide +kernel

set_option maxHeartbeats 1600000 in
theorem rotate_any (x : Int) (n : Nat) (w : World) (hx : 0 ≤ x ∧ x ≤ 4294967295) (hn : 1 ≤ n ∧ n ≤ 31) :
    Calls Tryd.prog 117 #[.int .u32 x, .int .i64 (-(n : Int))] w fun e w' => e = .returned (.int .u32 (rot x n)) ∧ w = w' := by
  have k0 := low_five n (by omega) hn.1
  have hr : rot x n = bits BinOp.or .u32 (x * 2 ^ (32 - n) % 4294967296) (x / 2 ^ n) := rfl
  obtain ⟨m, hm⟩ : ∃ m, 32 - n = m := ⟨_, rfl⟩
  rw [hm] at k0 hr
  have hs : (32 : Int) - (m : Int) = (n : Int) := by omega
  have hm2 : m ≤ 31 := by omega
  go_enter Tryd.func117, Tryd.ntmps117
  go_wp2_with fail
  go_ret
  exact ⟨by rw [hr]; rfl, rfl⟩

set_option maxHeartbeats 1600000 in
theorem turned_any (x N : Int) (n : Nat) (w : World) (hN : N = n) (hx : 0 ≤ x ∧ x ≤ 4294967295) (hn : 1 ≤ n ∧ n ≤ 31) :
    Calls Tryd.prog 104 #[.int .u32 x, .int .i64 N] w fun e w' => e = .returned (.int .u32 (rot x n)) ∧ w = w' := by
  subst hN
  go_enter Tryd.func104, Tryd.ntmps104
  go_wp2_with (go_at_call 117; refine (rotate_any x n w hx hn).mono ?_; rintro e w' ⟨rfl, rfl⟩)
  go_ret
  exact ⟨rfl, rfl⟩

theorem or_comm32 (a b : Int) : bits BinOp.or .u32 a b = bits BinOp.or .u32 b a := by simp only [bits, BitVec.or_comm]

set_option maxHeartbeats 1600000 in
theorem turn_any (x N : Int) (n : Nat) (w : World) (hN : N = n) (hx : 0 ≤ x ∧ x ≤ 4294967295) (hn : 1 ≤ n ∧ n ≤ 31) :
    Calls Tryd.prog 116 #[.int .u32 x, .int .i64 N] w fun e w' => e = .returned (.int .u32 (rot x n)) ∧ ∃ m, w' = w.drewN m := by
  subst hN
  have hr : rot x n = bits BinOp.or .u32 (x / 2 ^ n) (x * 2 ^ (32 - n) % 4294967296) := or_comm32 _ _
  obtain ⟨m, hm⟩ : ∃ m, 32 - n = m := ⟨_, rfl⟩
  rw [hm] at hr
  have hs : (32 : Int) - (n : Int) = (m : Int) := by omega
  have hm2 : m ≤ 31 := by omega
  go_enter Tryd.func116, Tryd.ntmps116
  go_wp2_with fail
  go_quiet (fail)
  go_wp2_with fail
  go_ret
  exact ⟨by rw [hr]; rfl, _, rfl⟩

theorem or_bd (a b : Int) : 0 ≤ bits BinOp.or .u32 a b ∧ bits BinOp.or .u32 a b ≤ 4294967295 := by
  show 0 ≤ IntKind.u32.wrap _ ∧ IntKind.u32.wrap _ ≤ 4294967295
  rw [IntKind.wrap_u32]
  omega
theorem rot_bd (x : Int) (n : Nat) : 0 ≤ rot x n ∧ rot x n ≤ 4294967295 := or_bd _ _
theorem and_bd (a b : Int) : 0 ≤ bits BinOp.and .u32 a b ∧ bits BinOp.and .u32 a b ≤ 4294967295 := by
  show 0 ≤ IntKind.u32.wrap _ ∧ IntKind.u32.wrap _ ≤ 4294967295
  rw [IntKind.wrap_u32]
  omega
theorem xor_bd (a b : Int) : 0 ≤ bits BinOp.xor .u32 a b ∧ bits BinOp.xor .u32 a b ≤ 4294967295 := by
  show 0 ≤ IntKind.u32.wrap _ ∧ IntKind.u32.wrap _ ≤ 4294967295
  rw [IntKind.wrap_u32]
  omega
end Go.Proofs.YtpnodocjpedcmaaDoor.Sha

namespace Go.Proofs.YtpnodocjpedcmaaDoor.Sha
open Go.ChangeShapes Go.WideShapes Go.ChangeAt Go.RowKit Go.Proofs.YtpnodocjpedcmaaDoor.Kit

theorem pick_nat (e f g : Nat) (he : e < 4294967296) : ((e &&& f) ^^^ ((4294967295 ^^^ e) &&& g)) = ((e &&& f) ||| ((4294967295 ^^^ e) &&& g)) := by
  apply Nat.eq_of_testBit_eq
  intro i
  rw [Nat.testBit_xor, Nat.testBit_or, Nat.testBit_and, Nat.testBit_and, Nat.testBit_xor]
  have h1 : Nat.testBit 4294967295 i = decide (i < 32) := Nat.testBit_two_pow_sub_one 32 i
  rw [h1]
  by_cases hi : i < 32
  · rw [decide_eq_true hi]
    cases e.testBit i <;> cases f.testBit i <;> cases g.testBit i <;> rfl
  · have h2 : e.testBit i = false := Nat.testBit_lt_two_pow (Nat.lt_of_lt_of_le (show e < 2 ^ 32 by omega) (Nat.pow_le_pow_right (n := 2) (by decide) (by omega)))
    rw [h2, decide_eq_false hi]
    cases f.testBit i <;> cases g.testBit i <;> rfl

theorem most_nat (a b c : Nat) : (((a &&& b) ^^^ (a &&& c)) ^^^ (b &&& c)) = (((a &&& b) ||| (a &&& c)) ||| (b &&& c)) := by
  apply Nat.eq_of_testBit_eq
  intro i
  simp only [Nat.testBit_xor, Nat.testBit_or, Nat.testBit_and]
  cases a.testBit i <;> cases b.testBit i <;> cases c.testBit i <;> rfl

def W32 (x : Int) : Prop := 0 ≤ x ∧ x ≤ 4294967295

theorem W32.nat {x : Int} (h : W32 x) : ∃ n : Nat, x = n ∧ n < 4294967296 := by
  obtain ⟨n, rfl⟩ := Int.eq_ofNat_of_zero_le h.1
  exact ⟨n, rfl, by have := h.2; omega⟩

def picks (e f g : Int) : Int := bits BinOp.xor .u32 (bits BinOp.and .u32 e f) (bits BinOp.and .u32 (bits BinOp.xor .u32 IntKind.u32.max e) g)
def most (a b c : Int) : Int := bits BinOp.xor .u32 (bits BinOp.xor .u32 (bits BinOp.and .u32 a b) (bits BinOp.and .u32 a c)) (bits BinOp.and .u32 b c)

theorem and_lt {a : Nat} (b : Nat) (h : a < 4294967296) : a &&& b < 4294967296 := Nat.lt_of_le_of_lt Nat.and_le_left h
theorem xor_lt {a b : Nat} (h : a < 4294967296) (h2 : b < 4294967296) : a ^^^ b < 4294967296 := Nat.xor_lt_two_pow (n := 32) h h2
theorem or_lt {a b : Nat} (h : a < 4294967296) (h2 : b < 4294967296) : a ||| b < 4294967296 := Nat.or_lt_two_pow (n := 32) h h2

theorem picks_or {e f g : Int} (he : W32 e) (hf : W32 f) (hg : W32 g) : bits BinOp.or .u32 (bits BinOp.and .u32 e f) (bits BinOp.and .u32 (bits BinOp.xor .u32 IntKind.u32.max e) g) = picks e f g := by
  obtain ⟨e, rfl, ke⟩ := he.nat
  obtain ⟨f, rfl, kf⟩ := hf.nat
  obtain ⟨g, rfl, kg⟩ := hg.nat
  unfold picks
  rw [show IntKind.u32.max = ((4294967295 : Nat) : Int) by rfl, u32_xor_nat _ _ (by decide) ke, u32_and_nat e f ke kf, u32_and_nat _ g (xor_lt (by decide) ke) kg, u32_or_nat _ _ (and_lt f ke) (and_lt g (xor_lt (by decide) ke)), u32_xor_nat _ _ (and_lt f ke) (and_lt g (xor_lt (by decide) ke)), pick_nat e f g ke]

theorem most_or {a b c : Int} (ha : W32 a) (hb : W32 b) (hc : W32 c) : bits BinOp.or .u32 (bits BinOp.or .u32 (bits BinOp.and .u32 a b) (bits BinOp.and .u32 a c)) (bits BinOp.and .u32 b c) = most a b c := by
  obtain ⟨a, rfl, ka⟩ := ha.nat
  obtain ⟨b, rfl, kb⟩ := hb.nat
  obtain ⟨c, rfl, kc⟩ := hc.nat
  unfold most
  rw [u32_and_nat a b ka kb, u32_and_nat a c ka kc, u32_and_nat b c kb kc, u32_or_nat _ _ (and_lt b ka) (and_lt c ka), u32_xor_nat _ _ (and_lt b ka) (and_lt c ka), u32_or_nat _ _ (or_lt (and_lt b ka) (and_lt c ka)) (and_lt c kb), u32_xor_nat _ _ (xor_lt (and_lt b ka) (and_lt c ka)) (and_lt c kb), most_nat a b c]
end Go.Proofs.YtpnodocjpedcmaaDoor.Sha

namespace Go.Proofs.YtpnodocjpedcmaaDoor.Oct
open Go.ChangeShapes Go.WideShapes Go.ChangeAt Go.RowKit Go.Proofs.YtpnodocjpedcmaaDoor.Kit

theorem get_bad (A : Option Addr) (n c : Nat) (at_ m : Int) (w : World) (hm : m < 1 ∨ 8 < m) :
    Calls Tryd.prog 79 #[.slice A n c, .int .i64 at_, .int .i64 m] w fun e w' => e = .returned (.tuple #[.int .u64 0, .int .i64 1]) ∧ w = w' := by
  rcases hm with hm | hm
  · go_enter Tryd.func79, Tryd.ntmps79
    go_wp2
    go_ret2
    exact ⟨rfl, rfl⟩
  · have hm' : ¬ m < 1 := by omega
    go_enter Tryd.func79, Tryd.ntmps79
    go_wp2
    go_ret2
    exact ⟨rfl, rfl⟩

theorem get_far (A : Option Addr) (n c : Nat) (at_ m : Int) (w : World) (hn : n ≤ 1000000) (hm : 1 ≤ m ∧ m ≤ 8) (h : at_ < 0 ∨ (n : Int) - m < at_) :
    Calls Tryd.prog 79 #[.slice A n c, .int .i64 at_, .int .i64 m] w fun e w' => e = .returned (.tuple #[.int .u64 0, .int .i64 5]) ∧ w = w' := by
  have h1 : ¬ m < 1 := by omega
  have h2 : ¬ 8 < m := by omega
  rcases h with h | h
  · go_enter Tryd.func79, Tryd.ntmps79
    go_wp2
    go_ret2
    exact ⟨rfl, rfl⟩
  · by_cases h0 : at_ < 0
    all_goals
      go_enter Tryd.func79, Tryd.ntmps79
      go_wp2
      go_ret2
      exact ⟨rfl, rfl⟩

theorem get_any (A : Option Addr) (xs : List Int) (c at_ m B : Nat) (w : World) (hn : xs.length ≤ 1000000) (hl : xs.length ≤ c) (hm : 1 ≤ m ∧ m ≤ 8) (h : at_ + m ≤ xs.length)
    (ho : Octets xs) (hr : Holds w B .u8 A xs) :
    Calls Tryd.prog 79 #[.slice A xs.length c, .int .i64 at_, .int .i64 m] w fun e w' => e = .returned (.tuple #[.int .u64 (val ((xs.drop at_).take m)), .int .i64 0]) ∧ w = w' := by
  obtain ⟨b, off, rfl, hb, hc⟩ := hr (by omega)
  have h1 : ¬ (m : Int) < 1 := by omega
  have h2 : ¬ 8 < (m : Int) := by omega
  have h3 : ¬ (at_ : Int) < 0 := by omega
  have h4 : ¬ (xs.length : Int) - m < at_ := by omega
  go_enter Tryd.func79, Tryd.ntmps79
  go_wp2
  go_loop [8, 34] (fun x i => ∃ k : Nat, k ≤ m ∧ i = .int .i64 k ∧ x = .int .u64 (val ((xs.drop at_).take k))) (fun _ i => m - (intOf i).toNat)
  case atStart => exact ⟨0, Nat.zero_le _, rfl, rfl⟩
  case round =>
    obtain ⟨k, hk, rfl, rfl⟩ := hrel
    have hcell : k < m → w.cell? ⟨b, off + at_ + k, none⟩ = some (.int .u8 (xs.getD (at_ + k) 0)) := fun _ => by rw [Nat.add_assoc]; exact hc _ (by omega)
    by_cases hlt : k < m
    · go_wp2
      go_round
      case rel =>
        refine ⟨k + 1, by omega, by go_num, ?_⟩
        have e1 := val_take (xs.drop at_) k (by simp; omega)
        have e2 := shl8_or (val ((xs.drop at_).take k)) (xs[at_ + k]?.getD 0) (val_lt _ (ho.tail _) k (by simp; omega) (by omega)) (ho.at_ _)
        rw [e2, e1]
        simp
      case measure => simp [intOf]; omega
    · go_wp2
      have : k = m := by omega
      subst this
      go_ret2
      exact ⟨rfl, rfl⟩

theorem rget_bad (A : Option Addr) (n c : Nat) (at_ m : Int) (w : World) (hm : m < 1 ∨ 8 < m) :
    Calls Tryd.prog 101 #[.slice A n c, .int .i64 at_, .int .i64 m] w fun e w' => e = .returned (.tuple #[.int .u64 0, .int .i64 1]) ∧ w = w' := by
  rcases hm with hm | hm
  · go_enter Tryd.func101, Tryd.ntmps101
    go_wp2
    go_ret2
    exact ⟨rfl, rfl⟩
  · have hm' : ¬ m < 1 := by omega
    go_enter Tryd.func101, Tryd.ntmps101
    go_wp2
    go_ret2
    exact ⟨rfl, rfl⟩

theorem rget_far (A : Option Addr) (n c : Nat) (at_ m : Int) (w : World) (hn : n ≤ 1000000) (hm : 1 ≤ m ∧ m ≤ 8) (h : at_ < 0 ∨ (n : Int) - m < at_) :
    Calls Tryd.prog 101 #[.slice A n c, .int .i64 at_, .int .i64 m] w fun e w' => e = .returned (.tuple #[.int .u64 0, .int .i64 5]) ∧ w = w' := by
  have h1 : ¬ m < 1 := by omega
  have h2 : ¬ 8 < m := by omega
  by_cases h0 : at_ < 0
  · go_enter Tryd.func101, Tryd.ntmps101
    go_wp2
    go_ret2
    exact ⟨rfl, rfl⟩
  · by_cases h3 : (n : Int) < at_
    · go_enter Tryd.func101, Tryd.ntmps101
      go_wp2
      go_ret2
      exact ⟨rfl, rfl⟩
    · have h4 : (n : Int) - at_ < m := by omega
      go_enter Tryd.func101, Tryd.ntmps101
      go_wp2
      go_ret2
      exact ⟨rfl, rfl⟩

theorem rget_any (A : Option Addr) (xs : List Int) (c at_ m B : Nat) (w : World) (hn : xs.length ≤ 1000000) (hl : xs.length ≤ c) (hm : 1 ≤ m ∧ m ≤ 8) (h : at_ + m ≤ xs.length)
    (ho : Octets xs) (hr : Holds w B .u8 A xs) :
    Calls Tryd.prog 101 #[.slice A xs.length c, .int .i64 at_, .int .i64 m] w fun e w' => e = .returned (.tuple #[.int .u64 (val ((xs.drop at_).take m)), .int .i64 0]) ∧ w = w' := by
  obtain ⟨b, off, rfl, hb, hc⟩ := hr (by omega)
  have h1 : ¬ (m : Int) < 1 := by omega
  have h2 : ¬ 8 < (m : Int) := by omega
  have h3 : ¬ (at_ : Int) < 0 := by omega
  have h4 : ¬ (xs.length : Int) < at_ := by omega
  have h5 : ¬ (xs.length : Int) - at_ < m := by omega
  go_enter Tryd.func101, Tryd.ntmps101
  go_wp2
  go_loop [8, 9] (fun x i => ∃ k : Nat, k ≤ m ∧ i = .int .i64 k ∧ x = .int .u64 (val ((xs.drop at_).take k))) (fun _ i => m - (intOf i).toNat)
  case atStart => exact ⟨0, Nat.zero_le _, rfl, rfl⟩
  case round =>
    obtain ⟨k, hk, rfl, rfl⟩ := hrel
    have hcell : k < m → w.cell? ⟨b, off + (at_ + k), none⟩ = some (.int .u8 (xs.getD (at_ + k) 0)) := fun _ => hc _ (by omega)
    by_cases hlt : k < m
    · have hv := val_lt _ (ho.tail at_) k (by simp; omega) (by omega)
      have hx := ho.at_ (at_ + k)
      go_wp2
      go_round
      case rel =>
        refine ⟨k + 1, by omega, by go_num, ?_⟩
        have e1 := val_take (xs.drop at_) k (by simp; omega)
        rw [e1]
        simp
      case measure => simp [intOf]; omega
    · go_wp2
      have : k = m := by omega
      subst this
      go_ret2
      exact ⟨rfl, rfl⟩

theorem elem8 : IntElem Tryd.prog 22 5 .u8 1 := ⟨Tryd.underlying22, by kernel_rfl, by omega⟩

/-- n, brought between 1 and 8. -/
def clamp (n : Int) : Nat := if n < 1 then 1 else if 8 < n then 8 else n.toNat

theorem clamp_bd (n : Int) : 1 ≤ clamp n ∧ clamp n ≤ 8 := by unfold clamp; split <;> (try split) <;> omega

theorem put_any (A : Option Addr) (xs : List Int) (c B : Nat) (n x : Int) (w : World) (hn : xs.length ≤ 1000000) (hr : Holds w w.heap.size .u8 A xs) (hx : 0 ≤ x ∧ x < 18446744073709551616) :
    Calls Tryd.prog 71 #[.slice A xs.length c, .int .i64 n, .int .u64 x] w fun e w' => ∃ v, e = .returned v ∧ Own w' w.heap.size 5 .u8 v (xs ++ be (clamp n) x) ∧ Below w.heap.size w w' := by
  obtain ⟨p, hp⟩ : ∃ p, (if n < 1 then (1 : Int) else n) = p := ⟨_, rfl⟩
  have hq : (if 8 < p then (8 : Int) else p) = (clamp n : Int) := by subst hp; unfold clamp; split <;> split <;> (try split) <;> omega
  have hm := clamp_bd n
  generalize clamp n = m at *
  go_enter Tryd.func71, Tryd.ntmps71
  go_wp2_with (first
    | (at_make; refine wpList_make_ints _ rfl _ _ _ rfl elem8 xs.length (xs.length + m) rfl rfl rfl (by omega) (by omega) (by omega) ?_; intro w1 own1 hb1 hz1)
    | (have _t := own1; refine wpList_copy_ints _ rfl (.tmp 19) (.tmp 20) 22 rfl elem8 own1 rfl rfl (hr.below hb1) (by simp) (by omega) ?_; clear _t; intro w2 own2 hg2 hb2))
  have own3 : Own w2 w.heap.size 5 .u8 (.slice (some ⟨w.heap.size, 0, none⟩) xs.length (xs.length + m)) xs := by simpa using own2
  have hb3 := hb1.trans hb2
  clear own1 own2 hg2 hb1 hb2
  go_wp2_with fail
  go_loopw [7, 23] (fun v i wr => ∃ j : Nat, j ≤ m ∧ i = .int .i64 j ∧ Own wr w.heap.size 5 .u8 v (xs ++ (be m x).take j) ∧ Below w.heap.size w wr) (fun _ i _ => m - (intOf i).toNat)
  case atStart => exact ⟨0, Nat.zero_le _, rfl, by simpa using own3, hb3⟩
  case round =>
    obtain ⟨j, hj, rfl, own, hb⟩ := hrel
    by_cases hlt : j < m
    · have hsz := hb.size
      have e1 := be_take m x j hlt
      have hbx := byteAt_bd x (m - 1 - j)
      go_wp2_with (at_builtin; refine wpList_append_one _ rfl _ _ _ rfl elem8 own rfl rfl (by simp [be_length]; omega) (by omega) ?_; intro v2 w2 own2 hg2 hb2)
      go_roundw
      case rel => exact ⟨j + 1, by omega, by go_num, by rw [e1, ← List.append_assoc]; exact own2, hb.trans hb2⟩
      case measure => simp [intOf]; omega
    · go_wp2_with fail
      obtain rfl : j = m := by omega
      go_ret
      exact ⟨_, rfl, by rwa [List.take_of_length_le (by rw [be_length]; exact Nat.le_refl _)] at own, hb⟩

/-- What a caller of Put is told: a slice that reads zs. -/
def Reads (w : World) (zs : List Int) (e : Ending) (w' : World) : Prop :=
  ∃ (A : Option Addr) (c : Nat), e = .returned (.slice A zs.length c) ∧ zs.length ≤ c ∧ c ≤ maxLen ∧ Holds w' w'.heap.size .u8 A zs ∧ Below w.heap.size w w'

theorem put_as (A : Option Addr) (xs zs : List Int) (c : Nat) (n x : Int) (w : World) (hz : xs ++ be (clamp n) x = zs) (hn : xs.length ≤ 1000000) (hr : Holds w w.heap.size .u8 A xs) (hx : 0 ≤ x ∧ x < 18446744073709551616) :
    Calls Tryd.prog 71 #[.slice A xs.length c, .int .i64 n, .int .u64 x] w (Reads w zs) :=
  (put_any A xs c 0 n x w hn hr hx).mono fun e w' ⟨v, he, own, hb⟩ => by
    subst hz
    obtain ⟨A', c', rfl, hl, hm, hr'⟩ := own.opened
    exact ⟨A', c', he, hl, hm, hr', hb⟩

end Go.Proofs.YtpnodocjpedcmaaDoor.Oct

namespace Go.Proofs.YtpnodocjpedcmaaDoor.Kit
open Go.ChangeShapes Go.WideShapes Go.ChangeAt Go.RowKit

theorem strOfNums_inj {xs ys : List Int} (hx : Octets xs) (hy : Octets ys) (h : strOfNums xs = strOfNums ys) : xs = ys := by
  unfold strOfNums at h
  have h1 := congrArg (fun b : ByteArray => b.data.toList) h
  simp at h1
  have key : ∀ (xs ys : List Int), Octets xs → Octets ys → xs.map (fun n => UInt8.ofNat n.toNat) = ys.map (fun n => UInt8.ofNat n.toNat) → xs = ys := by
    intro xs
    induction xs with
    | nil => intro ys _ _ h; cases ys with
      | nil => rfl
      | cons y ys => simp at h
    | cons x xs ih =>
      intro ys hx hy h
      cases ys with
      | nil => simp at h
      | cons y ys =>
        simp only [List.map_cons, List.cons.injEq] at h
        have hxx := hx x (by simp)
        have hyy := hy y (by simp)
        have e := congrArg UInt8.toNat h.1
        simp only [UInt8.toNat_ofNat'] at e
        have : x = y := by omega
        rw [this, ih ys (fun z hz => hx z (by simp [hz])) (fun z hz => hy z (by simp [hz])) h.2]
  exact key xs ys hx hy h1
end Go.Proofs.YtpnodocjpedcmaaDoor.Kit
