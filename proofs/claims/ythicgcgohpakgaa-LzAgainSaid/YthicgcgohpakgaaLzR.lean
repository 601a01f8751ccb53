/-
  Layer 11, lz.matches: a contract. Conditions: as each theorem names.
-/
import Derived.Test.YthicgcgohpakgaaLzQ
import Derived.Maps.OwnOps
import Derived.Maps.OwnSet
import Derived.Maps.Views
namespace Go.Proofs.Ythicgcgohpakgaa.Lz
open Go.ChangeShapes Go.WideShapes Go.ChangeAt Go.RowKit Go.Maps Go.Proofs.Ythicgcgohpakgaa.Kit

theorem wpList_make_mat {w : World} {ops : Array Oper} {rest : List Oper} {o : Oper} {a : Act} {Q : Exit → Act → World → Prop} (hgd : o.guard = none) (l c : Operand) (t : TypeId)
    (ho : o.op = Op.makeSlice t l c) (ht : Try.prog.underlying t = some (.slice 43)) {kl kc : IntKind} (n : Nat)
    (hl : a.eval l = .int kl (n : Int)) (hc : a.eval c = .int kc (n : Int)) (hsz : n ≤ 1000000)
    (h : ∀ w', MatAt w' w.heap.size (List.replicate n (0, 0)) → Below w.heap.size w w' → w.heap.size < w'.heap.size → wpList Try.prog ops Q rest (a.put o.dst (.slice (some ⟨w.heap.size, 0, none⟩) n n)) w') :
    wpList Try.prog ops Q (o :: rest) a w := by
  have hinfo : (Try.prog.info? 43).map (fun i => (i.zero, i.size, i.bytes)) = some (some (.agg #[.int .i64 0, .int .i64 0]), 2, 16) := by kernel_rfl
  obtain ⟨i, hi, hz, hs, hby⟩ := info_parts hinfo
  refine wpList_plain hgd fun K hK => ?_
  have hrun := run_make (P := Try.prog) w t 43 i _ ht hi hz kl kc n n (by omega) (Int.le_refl _) (by rw [hby]; omega) (by omega)
  unfold Oper.wp
  simp [execOp, ho, hl, hc, hrun, Result.andThen]
  refine hK _ _ ?_
  have hcells : madeCells (Value.agg #[.int .i64 0, .int .i64 0]).cells ((n : Int).toNat * i.size) = (flatM (List.replicate n (0, 0))).toArray := by
    apply Array.toList_inj.1
    rw [hs, Int.toNat_natCast]
    refine List.ext_getElem? fun j => ?_
    simp only [madeCells, Array.toList_map, Array.toList_range, List.getElem?_map]
    by_cases hj : j < n * 2
    · rw [List.getElem?_range hj]
      simp only [Option.map_some]
      have h2 := flatM_get (List.replicate n (0, 0)) (j / 2) (by simp; omega)
      have hg : (List.replicate n ((0 : Nat), (0 : Nat))).getD (j / 2) (0, 0) = (0, 0) := by
        rw [List.getD, List.getElem?_replicate]
        split <;> rfl
      rw [hg] at h2
      have hv : (#[Value.int .i64 0, Value.int .i64 0])[j % 2]! = .int .i64 0 := by
        have : j % 2 = 0 ∨ j % 2 = 1 := by omega
        rcases this with h | h <;> rw [h] <;> rfl
      show some ((#[Value.int .i64 0, Value.int .i64 0])[j % 2]!) = _
      rw [hv]
      rcases Nat.mod_two_eq_zero_or_one j with h0 | h0
      · rw [show j / 2 * 2 = j by omega] at h2
        exact h2.1.symm
      · rw [show j / 2 * 2 + 1 = j by omega] at h2
        exact h2.2.symm
    · rw [List.getElem?_eq_none (by simpa using hj), List.getElem?_eq_none (by simp [flatM_length]; omega)]
      rfl
  rw [Int.toNat_natCast] at hcells
  rw [hcells]
  refine h _ ?_ ((Below.refl _ _).alloc (Nat.le_refl _) _) (by simp)
  exact heap_alloc_new w _

/-- Block b is a map of the newest places of keys, of the first i places. -/
def NewestAt (w : World) (b N : Nat) (K : Nat → Int) (i : Nat) : Prop :=
  ∃ D : DataW Unit, w.ownsMap Try.prog 45 (plainElem Try.prog 3) b N D ∧ ∀ x, Maps.has D (.int .u32 x) = decide (0 ≤ lastK K i x) ∧ (0 ≤ lastK K i x → ∀ z, D.atKey (.int .u32 x) z = .lit (.int .i64 (lastK K i x)))
theorem keyU : Keyed Try.prog 45 := int_keyed Try.underlying45
theorem keyU_of {k : Int} (h : 0 ≤ k ∧ k < 4294967296) : keyOf Try.prog 45 (.int .u32 k) = some (.int .u32 k) := keyOf_int_mk Try.underlying45 (WalkArith.wf_u32 (by omega))
section
variable {w w' : World} {b N i : Nat} {K : Nat → Int}
theorem NewestAt.lt (h : NewestAt w b N K i) : b < w.heap.size := by
  obtain ⟨D, h1, _⟩ := h
  exact h1.lt
theorem NewestAt.turn (h : NewestAt w b N K i) (hb : w'.heap[b]? = w.heap[b]?) : NewestAt w' b N K i := by
  obtain ⟨D, ⟨e1, c1, h1, r⟩, h2⟩ := h
  exact ⟨D, ⟨e1, c1, hb.trans h1, r⟩, h2⟩
theorem NewestAt.made (w : World) (K : Nat → Int) : NewestAt (w.alloc (.map #[] 0)) w.heap.size 0 K 0 := by
  refine ⟨.map [], World.ownsMap_made _ _ _ _, fun x => ⟨?_, fun h => ?_⟩⟩
  · simp [Maps.has, lastK]
  · simp [lastK] at h
end
theorem newest_put {D : DataW Unit} (hD : IsMap D) {K : Nat → Int} {i : Nat} (h : ∀ x, Maps.has D (.int .u32 x) = decide (0 ≤ lastK K i x) ∧ (0 ≤ lastK K i x → ∀ z, D.atKey (.int .u32 x) z = .lit (.int .i64 (lastK K i x)))) :
    ∀ x, Maps.has (D.put (.int .u32 (K i)) (.lit (.int .i64 i))) (.int .u32 x) = decide (0 ≤ lastK K (i + 1) x) ∧ (0 ≤ lastK K (i + 1) x → ∀ z, (D.put (.int .u32 (K i)) (.lit (.int .i64 i))).atKey (.int .u32 x) z = .lit (.int .i64 (lastK K (i + 1) x))) := by
  intro x
  by_cases hx : K i = x
  · subst hx
    have e : lastK K (i + 1) (K i) = i := by unfold lastK; rw [if_pos rfl]
    rw [e]
    refine ⟨?_, fun _ z => ?_⟩
    · rw [has_put_same hD (by constructor)]
      exact (decide_eq_true (by omega)).symm
    · exact atKey_put_same hD (by constructor) _ _
  · have e : lastK K (i + 1) x = lastK K i x := by rw [lastK, if_neg hx]
    have hne : (Lit.int .u32 x) ≠ .int .u32 (K i) := by intro e; injection e with _ e; exact hx e.symm
    rw [e]
    obtain ⟨h1, h2⟩ := h x
    refine ⟨?_, fun h0 z => ?_⟩
    · rw [has_put_other hne]
      exact h1
    · rw [atKey_put_other hne]
      exact h2 h0 z
end Go.Proofs.Ythicgcgohpakgaa.Lz
