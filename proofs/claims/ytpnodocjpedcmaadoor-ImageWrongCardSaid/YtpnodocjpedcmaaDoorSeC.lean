/-
  Layer 6, sector: a device in memory; its small methods: contracts. Conditions: as each theorem names.
-/
import Derived.Test.YtpnodocjpedcmaaDoorSeB
import Derived.Deep.QuietTactic
import Derived.BigQuiet
namespace Go.Proofs.YtpnodocjpedcmaaDoor.Sec
open Go.ChangeShapes Go.WideShapes Go.ChangeAt Go.RowKit Go.Proofs.YtpnodocjpedcmaaDoor.Kit Go.Maps

/-- A device. -/
structure Dv where
  size : Nat
  count : Nat
  kept : Sl
  waits : Sl
  off : Bool
  offs : Int
  fuse : Int
  wr : Int
structure Dv.Ok (s : Dv) : Prop where
  s1 : 128 ≤ s.size
  s2 : s.size ≤ 4096
  c1 : 1 ≤ s.count
  c2 : s.count ≤ 1048576
  ku : Up s.kept
  wu : Up s.waits
  kr : ∀ p ∈ s.kept, 0 ≤ p.1 ∧ p.1 < s.count
  wr_ : ∀ p ∈ s.waits, 0 ≤ p.1 ∧ p.1 < s.count
  wn : ∀ p ∈ s.waits, p.2 ≠ none
  f1 : -1 ≤ s.fuse
  f2 : s.fuse ≤ 9223372036854775807
  o1 : 0 ≤ s.offs
  w1 : 0 ≤ s.wr
def Dv.cells (s : Dv) (mk mw : Nat) : Array Value :=
  #[.int .i64 s.size, .int .i64 s.count, .map (some mk), .map (some mw), .bool s.off, .int .i64 s.offs, .int .i64 s.fuse, .int .u64 s.wr]
/-- A device lies in memory: itself in a, what is kept in mk, what waits in mw; its rows of bytes lie in blocks of I. -/
structure DvAt (w : World) (I : Nat → Prop) (a mk mw : Nat) (s : Dv) : Prop where
  blk : Block w a 91 (s.cells mk mw)
  k : MapAt w I RK mk s.size s.kept
  wt : MapAt w I RW mw s.size s.waits
  ne : mk ≠ mw
  ok : s.Ok
/-- A device's blocks. -/
def DSet (a mk mw b : Nat) : Prop := b = a ∨ b = mk ∨ b = mw

section
variable {w w' : World} {I J : Nat → Prop} {a mk mw : Nat} {s : Dv}
theorem DvAt.lt (h : DvAt w I a mk mw s) : a < w.heap.size ∧ mk < w.heap.size ∧ mw < w.heap.size := ⟨h.blk.lt, h.k.lt, h.wt.lt⟩
theorem DvAt.mono (h : DvAt w I a mk mw s) (hJ : ∀ g, g < w.heap.size → I g → J g) : DvAt w J a mk mw s := ⟨h.blk, h.k.mono hJ, h.wt.mono hJ, h.ne, h.ok⟩
theorem DvAt.no_row (h : DvAt w I a mk mw s) : ∀ b, DSet a mk mw b → ∀ cs f, w.heap[b]? ≠ some (.cells cs 5 f) := by
  rintro b (rfl | rfl | rfl) cs f
  · intro e
    have := h.blk
    unfold Block at this
    rw [this] at e
    injection e with e
    injection e with _ e _
    exact absurd e (by decide)
  · exact h.k.no_row _ _ _
  · exact h.wt.no_row _ _ _
theorem DvAt.ne_k (h : DvAt w I a mk mw s) : a ≠ mk := by
  rintro rfl
  exact h.k.no_row _ _ _ h.blk
theorem DvAt.ne_w (h : DvAt w I a mk mw s) : a ≠ mw := by
  rintro rfl
  exact h.wt.no_row _ _ _ h.blk
/-- It stays while other blocks turn. -/
theorem DvAt.out {S : Nat → Prop} (h : DvAt w I a mk mw s) (t : TurnsIn S w w') (h1 : ¬ S a) (h2 : ¬ S mk) (h3 : ¬ S mw) (hS : ∀ b, S b → I b → ∀ cs f, w.heap[b]? ≠ some (.cells cs 5 f)) : DvAt w' I a mk mw s :=
  ⟨h.blk.out t h1, h.k.out t h2 hS, h.wt.out t h3 hS, h.ne, h.ok⟩
theorem DvAt.below (h : DvAt w I a mk mw s) (hb : Below w.heap.size w w') : DvAt w' I a mk mw s :=
  h.out (S := fun _ => False) (.ofNew hb) id id id fun _ hf => hf.elim
theorem DvAt.alloc (h : DvAt w I a mk mw s) (o : Obj) : DvAt (w.alloc o) I a mk mw s := h.below ((Below.refl _ _).alloc (Nat.le_refl _) _)
/-- A field is stored. -/
theorem DvAt.field (h : DvAt w I a mk mw s) (i : Nat) (u : Value) (s' : Dv) (hc : (s.cells mk mw).setIfInBounds i u = s'.cells mk mw) (hk : s'.kept = s.kept) (hw : s'.waits = s.waits) (hs : s'.size = s.size) (ok : s'.Ok) :
    DvAt (w.setCell ⟨a, i, none⟩ u) I a mk mw s' ∧ TurnsIn (DSet a mk mw) w (w.setCell ⟨a, i, none⟩ u) := by
  have t : TurnsIn (fun b => b = a) w (w.setCell ⟨a, i, none⟩ u) := TurnsIn.setCell (S := fun b => b = a) (p := ⟨a, i, none⟩) (TurnsIn.refl _ w) (Or.inl rfl) u
  have hr : ∀ b, b = a → I b → ∀ cs f, w.heap[b]? ≠ some (.cells cs 5 f) := fun b hb _ => h.no_row b (Or.inl hb)
  refine ⟨⟨by rw [← hc]; exact h.blk.set_ i u, ?_, ?_, h.ne, ok⟩, t.mono fun b _ hb => Or.inl hb⟩
  · rw [hk, hs]; exact h.k.out t (fun e => h.ne_k e.symm) hr
  · rw [hw, hs]; exact h.wt.out t (fun e => h.ne_w e.symm) hr
/-- The cells, to be read. -/
theorem DvAt.reads (h : DvAt w I a mk mw s) :
    w.cell? ⟨a, 0, none⟩ = some (.int .i64 s.size) ∧ w.cell? ⟨a, 1, none⟩ = some (.int .i64 s.count) ∧ w.cell? ⟨a, 2, none⟩ = some (.map (some mk)) ∧ w.cell? ⟨a, 3, none⟩ = some (.map (some mw)) ∧ w.cell? ⟨a, 4, none⟩ = some (.bool s.off) ∧ w.cell? ⟨a, 5, none⟩ = some (.int .i64 s.offs) ∧ w.cell? ⟨a, 6, none⟩ = some (.int .i64 s.fuse) ∧ w.cell? ⟨a, 7, none⟩ = some (.int .u64 s.wr) :=
  ⟨h.blk.cell 0, h.blk.cell 1, h.blk.cell 2, h.blk.cell 3, h.blk.cell 4, h.blk.cell 5, h.blk.cell 6, h.blk.cell 7⟩
theorem DvAt.free (h : DvAt w I a mk mw s) (i : Nat) : w.frozen? ⟨a, i, none⟩ = false := h.blk.frozen i
end

/-! ### methods that read -/
theorem size_any (I : Nat → Prop) (a mk mw : Nat) (s : Dv) (w : World) (h : DvAt w I a mk mw s) : Calls Tryd.prog 57 #[.pointer (some ⟨a, 0, none⟩)] w fun e w' => e = .returned (.int .i64 s.size) ∧ w = w' := by
  obtain ⟨c0, c1, c2, c3, c4, c5, c6, c7⟩ := h.reads
  clear h
  go_enter Tryd.func57, Tryd.ntmps57
  go_wp2
  go_ret
  exact ⟨rfl, rfl⟩
theorem count_any (I : Nat → Prop) (a mk mw : Nat) (s : Dv) (w : World) (h : DvAt w I a mk mw s) : Calls Tryd.prog 58 #[.pointer (some ⟨a, 0, none⟩)] w fun e w' => e = .returned (.int .i64 s.count) ∧ w = w' := by
  obtain ⟨c0, c1, c2, c3, c4, c5, c6, c7⟩ := h.reads
  clear h
  go_enter Tryd.func58, Tryd.ntmps58
  go_wp2
  go_ret
  exact ⟨rfl, rfl⟩
theorem isOn_any (I : Nat → Prop) (a mk mw : Nat) (s : Dv) (w : World) (h : DvAt w I a mk mw s) : Calls Tryd.prog 41 #[.pointer (some ⟨a, 0, none⟩)] w fun e w' => e = .returned (.bool (!s.off)) ∧ w = w' := by
  obtain ⟨c0, c1, c2, c3, c4, c5, c6, c7⟩ := h.reads
  clear h
  go_enter Tryd.func41, Tryd.ntmps41
  go_wp2
  go_ret
  exact ⟨rfl, rfl⟩
theorem writes_any (I : Nat → Prop) (a mk mw : Nat) (s : Dv) (w : World) (h : DvAt w I a mk mw s) : Calls Tryd.prog 32 #[.pointer (some ⟨a, 0, none⟩)] w fun e w' => e = .returned (.int .u64 s.wr) ∧ w = w' := by
  obtain ⟨c0, c1, c2, c3, c4, c5, c6, c7⟩ := h.reads
  clear h
  go_enter Tryd.func32, Tryd.ntmps32
  go_wp2
  go_ret
  exact ⟨rfl, rfl⟩
theorem MapAt.len {w : World} {I : Nat → Prop} {R : Value → Option (DataW Unit × List MemPlace)} {b n : Nat} {l : Sl} {t e : TypeId} (ht : Tryd.prog.underlying t = some (.map 3 e)) (h : MapAt w I R b n l) (ty : TypeId) : (Builtin.len_ #[t] ty #[.map (some b)]).run Tryd.prog w = .ok (.int .i64 l.length) w := by
  obtain ⟨es, h1, h2⟩ := h
  rw [h1.len ht ty, ← h2.length]
  rfl
theorem waits_any (I : Nat → Prop) (a mk mw : Nat) (s : Dv) (w : World) (h : DvAt w I a mk mw s) : Calls Tryd.prog 31 #[.pointer (some ⟨a, 0, none⟩)] w fun e w' => e = .returned (.int .i64 s.waits.length) ∧ w = w' := by
  obtain ⟨c0, c1, c2, c3, c4, c5, c6, c7⟩ := h.reads
  have hl := fun ty => h.wt.len Tryd.underlying89 ty
  clear h
  go_enter Tryd.func31, Tryd.ntmps31
  go_wp2
  go_ret
  exact ⟨rfl, rfl⟩
end Go.Proofs.YtpnodocjpedcmaaDoor.Sec
