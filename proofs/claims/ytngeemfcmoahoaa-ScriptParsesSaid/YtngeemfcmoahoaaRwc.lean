/-
  Own words: rows of bytes that a call lays itself in a new block. No program. No conditions beyond what each theorem names.
-/
import Derived.Test.YtngeemfcmoahoaaRwb
import Derived.Test.YtngeemfcmoahoaaArr
namespace Go.Proofs.Ytngeemfcmoahoaa.Kit
open Go.ChangeShapes Go.WideShapes Go.ChangeAt Go.RowKit

/-- A row's slice. -/
def Rw.val (r : Rw) : Value := .slice r.A r.zs.length r.cap
/-- A row that may be. -/
def RwOk (w : World) (B : Nat) (r : Rw) : Prop := r.zs.length ≤ r.cap ∧ r.cap ≤ maxLen ∧ Octets r.zs ∧ Holds w B .u8 r.A r.zs

theorem RwOk.below {w w' : World} {B : Nat} {r : Rw} (h : RwOk w B r) (hb : Below B w w') : RwOk w' B r := ⟨h.1, h.2.1, h.2.2.1, h.2.2.2.below hb⟩
theorem RwOk.more {w : World} {B B' : Nat} {r : Rw} (h : RwOk w B r) (hb : B ≤ B') : RwOk w B' r := ⟨h.1, h.2.1, h.2.2.1, h.2.2.2.more hb⟩
theorem RwOk.on {w w' : World} {r : Rw} (h : RwOk w w.heap.size r) (hb : Below w.heap.size w w') : RwOk w' w'.heap.size r := (h.below hb).more hb.size
theorem RwOk.arr {w : World} {g : Nat} {t : TypeId} {xs : List Int} (h : Arr w g t .u8 xs) (ho : Octets xs) (hl : xs.length ≤ maxLen) : RwOk w w.heap.size ⟨some ⟨g, 0, none⟩, xs.length, xs⟩ :=
  ⟨Nat.le_refl _, hl, ho, h.holds_all⟩

theorem rows_laid {w : World} {t : TypeId} (rs : List Rw) (h : ∀ r ∈ rs, RwOk w w.heap.size r) :
    HoldsW (w.alloc (.cells (rs.map Rw.val).toArray t)) (w.alloc (.cells (rs.map Rw.val).toArray t)).heap.size (some ⟨w.heap.size, 0, none⟩) rs := by
  have bk := Block.new w t (rs.map Rw.val).toArray
  have hb := (Below.refl w.heap.size w).alloc (Nat.le_refl _) (.cells (rs.map Rw.val).toArray t)
  intro _
  refine ⟨w.heap.size, 0, rfl, by simp, fun i r hi => ?_⟩
  have hr := (h r (List.mem_of_getElem? hi)).on hb
  refine ⟨_, ⟨rfl, hr⟩, rfl, fun j v hj => ?_⟩
  have hj0 : j = 0 := by
    rcases j with _ | j
    · rfl
    · simp at hj
  subst hj0
  have hv : v = r.val := by simpa [Rw.val] using hj.symm
  subst hv
  rw [Nat.zero_add, Nat.mul_one, Nat.add_zero, bk.cell i]
  simp [hi]
end Go.Proofs.Ytngeemfcmoahoaa.Kit
