/-
  Layer 18, graph: sets of numbers of the call's own; their keys, sorted: contracts. Conditions: as each theorem names.
-/
import Derived.Test.YtojmcjkeniepcaaSkG
import Derived.Test.YtojmcjkeniepcaaOut
import Derived.Maps.OwnSet
import Derived.Lib.SlKeysI
import Derived.LoopTactic
import Derived.Test.YtojmcjkeniepcaaRows
import Derived.WalkKit
namespace Go.Proofs.Ytojmcjkeniepcaa.Sk
open Go.RowKit Go.Maps Go.Sort Go.Shelf Go.Proofs Go.Proofs.Ytojmcjkeniepcaa.Kit Go.ChangeMaps

theorem sortsA (m : Nat) : AnyZI.SortsIn Try.prog sortedA_ren Fence.wide m :=
  ⟨fun blk off cap ss W hH hblk hsz => callsIn_wide.2 (AnyM.slices_Sort_int sortA blk off cap ss W hH hblk hsz),
   fun p cap W => callsIn_wide.2 (AnyM.slices_Sort_int_none sortA p cap W)⟩

theorem keys_any (mb : Option Nat) (W : World) : Calls Try.prog 42 #[.map mb] W fun e w' => e = .returned (.func (.func 48) #[] #[.pointer (some ⟨W.heap.size, 0, none⟩)]) ∧ w' = W.alloc (.cells #[.map mb] 55) :=
  (callsIn_wide (n := 5)).1 (AnyZI.keys_in keysA Fence.wide 5 trivial rfl mb W)

theorem sorted_any {H : Type} (b nn : Nat) (D0 : DataW H) (R : Value → Option (DataW H × List MemPlace)) (w : World) (hown : w.ownsMap Try.prog 3 R b nn D0) (hmax : Maps.size D0 ≤ maxLen) (hbytes : Maps.size D0 * 8 ≤ 140737488355328) :
    Calls Try.prog 41 #[.func (.func 48) #[] #[.pointer (some ⟨w.heap.size, 0, none⟩)]] (w.alloc (.cells #[.map (some b)] 55)) fun e w' => ∃ (v : Value) (ss : List Int), e = .returned v ∧ ss.Perm (intKeys D0) ∧
      w'.ownsRow (w.alloc (.cells #[.map (some b)] 55)).heap.size 3 1 v ss.length ((ss.mergeSort (fun x y => decide (x ≤ y))).map encZ) ∧ (v = .slice none 0 0 ↔ ss = []) ∧ Below (w.alloc (.cells #[.map (some b)] 55)).heap.size (w.alloc (.cells #[.map (some b)] 55)) w' := by
  refine (callsIn_wide (n := 5)).1 ?_
  have hbl := hown.lt
  have hseq : SeqGives Fence.wide 2 Try.prog 48 #[.pointer (some ⟨w.heap.size, 0, none⟩)] encZ (fun ss => ss.Perm (intKeys D0)) (Maps.size D0) (w.alloc (.cells #[.map (some b)] 55)) :=
    AnyZI.keys_gives (ρ := keysA_ren) { keysA with } Fence.wide _ trivial rfl (by omega) w.heap.size b nn D0 _ (by simp) (by simp) (by
      obtain ⟨es, clock, hb, Ft, hs, hD⟩ := hown
      exact ⟨es, clock, (Below.heap_alloc _ _ b hbl).trans hb, Ft, hs, hD⟩)
  exact (AnyZI.sorted_in sortedA Fence.wide 5 trivial trivial trivial trivial rfl (by omega) (sortsA _) (enters_of Try.func47 (by kernel_rfl) rfl) 48 #[.pointer (some ⟨w.heap.size, 0, none⟩)] trivial (enters_of Try.func48 (by kernel_rfl) rfl) _ _ hmax hbytes _ hseq).mono fun e w' h => h

theorem keyI : Keyed Try.prog 3 := int_keyed Try.underlying3
theorem key_of {k : Int} (h : -9223372036854775808 ≤ k ∧ k ≤ 9223372036854775807) : keyOf Try.prog 3 (.int .i64 k) = some (.int .i64 k) :=
  keyOf_int_mk Try.underlying3 (WalkArith.wf_i64 h)

/-- Block b is a set of just the numbers that S tells of. -/
def SetAt (w : World) (b N : Nat) (S : Int → Prop) : Prop := ∃ D : DataW Unit, w.ownsMap Try.prog 3 unitElem b N D ∧ ∀ x, Maps.has D (.int .i64 x) = true ↔ S x
section
variable {w w' : World} {b N : Nat} {S T : Int → Prop}
theorem SetAt.lt (h : SetAt w b N S) : b < w.heap.size := by
  obtain ⟨D, h1, _⟩ := h
  exact h1.lt
theorem SetAt.turn (h : SetAt w b N S) (hb : w'.heap[b]? = w.heap[b]?) : SetAt w' b N S := by
  obtain ⟨D, ⟨e1, c1, h1, r⟩, h2⟩ := h
  exact ⟨D, ⟨e1, c1, hb.trans h1, r⟩, h2⟩
theorem SetAt.below (h : SetAt w b N S) (hb : Below w.heap.size w w') : SetAt w' b N S := h.turn (hb.block b h.lt)
theorem SetAt.mono {M : Nat} (h : SetAt w b N S) (hM : N ≤ M) (hS : ∀ x, S x ↔ T x) : SetAt w b M T := by
  obtain ⟨D, ⟨e1, c1, h1, F, hs, hD⟩, h2⟩ := h
  exact ⟨D, ⟨e1, c1, h1, F, Nat.le_trans hs hM, hD⟩, fun x => (h2 x).trans (hS x)⟩
theorem SetAt.made (w : World) : SetAt (w.alloc (.map #[] 0)) w.heap.size 0 (fun _ => False) := by
  refine ⟨.map [], World.ownsMap_made _ _ _ _, fun x => ?_⟩
  simp [Maps.has]
theorem has_put {D : DataW Unit} (hD : IsMap D) (y x : Int) (d : DataW Unit) : Maps.has (D.put (.int .i64 y) d) (.int .i64 x) = true ↔ Maps.has D (.int .i64 x) = true ∨ x = y := by
  by_cases h : x = y
  · subst h
    rw [has_put_same hD (by constructor)]
    simp
  · rw [has_put_other (by intro e; injection e with _ e; exact h e)]
    simp [h]
end
theorem sorted_keys {l ss : List Int} (hu : l.Pairwise (· < ·)) (h : ss.Perm l) : ss.mergeSort (fun x y => decide (x ≤ y)) = l := by
  have e := mergeSort_of_perm_i h
  rw [e]
  apply List.mergeSort_of_pairwise
  exact hu.imp (fun h => by simp; omega)

/-- slices.Sorted(maps.Keys(m)), its second step. -/
def GivesK (l : List Int) (w : World) (e : Ending) (w' : World) : Prop := ∃ v, e = .returned v ∧ Own w' w.heap.size 3 .i64 v l ∧ Below w.heap.size w w'
theorem sorted_set {w : World} {b N : Nat} {S : Int → Prop} {l : List Int} (h : SetAt w b N S) (hN : N < 1000000000) (hu : l.Pairwise (· < ·)) (hl : ∀ x, x ∈ l ↔ S x) :
    Calls Try.prog 41 #[.func (.func 48) #[] #[.pointer (some ⟨w.heap.size, 0, none⟩)]] (w.alloc (.cells #[.map (some b)] 55)) (GivesK l w) := by
  obtain ⟨D, h1, h2⟩ := h
  have hsz := h1.size_le
  have h8 : Maps.size D * 8 ≤ 140737488355328 := by omega
  have hm : Maps.size D ≤ maxLen := by unfold maxLen; omega
  have hp : l.Perm (intKeys D) := by
    obtain ⟨es, hD, hpw, _⟩ := h1.entries keyI
    obtain ⟨es', hD', hko⟩ := h1.keysOf
    obtain rfl : es = es' := by rw [hD] at hD'; simpa using hD'
    subst hD
    refine perm_intKeys hpw (fun p hp => by obtain ⟨v, hv⟩ := hko p hp; obtain ⟨x, _, hx, _⟩ := Maps.keyOf_i64 Try.underlying3 hv; exact ⟨x, hx⟩) (hu.imp fun h => by omega) fun x => ?_
    rw [hl x, h2 x]
  refine (sorted_any b N D unitElem w h1 hm h8).mono fun e w' ⟨v, ss, he, hp2, hown, _, hb⟩ => ⟨v, he, ?_, ?_⟩
  · have hp3 := hp2.trans hp.symm
    have hlen := hp3.length_eq
    rw [sorted_keys hu hp3, hlen] at hown
    exact Own.mono (B := (w.alloc (.cells #[.map (some b)] 55)).heap.size) hown (by simp)
  · exact ((Below.refl _ w).alloc (Nat.le_refl _) _).trans (hb.mono (by simp))
theorem sorted_nil (w : World) : Calls Try.prog 41 #[.func (.func 48) #[] #[.pointer (some ⟨w.heap.size, 0, none⟩)]] (w.alloc (.cells #[.map none] 55)) (GivesK [] w) := by
  have hseq : SeqGives Fence.wide 2 Try.prog 48 #[.pointer (some ⟨w.heap.size, 0, none⟩)] encZ (fun ss => ss = []) 0 (w.alloc (.cells #[.map none] 55)) :=
    AnyZI.keys_gives_nil (ρ := keysA_ren) { keysA with } Fence.wide _ trivial rfl w.heap.size _ (by simp) (by simp)
  refine ((callsIn_wide (n := 5)).1 (AnyZI.sorted_in sortedA Fence.wide 5 trivial trivial trivial trivial rfl (by omega) (sortsA _) (enters_of Try.func47 (by kernel_rfl) rfl) 48 #[.pointer (some ⟨w.heap.size, 0, none⟩)] trivial (enters_of Try.func48 (by kernel_rfl) rfl) _ _ (by unfold maxLen; omega) (by omega) _ hseq)).mono fun e w' ⟨v, ss, he, hp, hown, _, hb⟩ => ⟨v, he, ?_, ?_⟩
  · subst hp
    rw [List.mergeSort_nil] at hown
    exact Own.mono (B := (w.alloc (.cells #[.map none] 55)).heap.size) hown (by simp)
  · exact ((Below.refl _ w).alloc (Nat.le_refl _) _).trans (hb.mono (by simp))

/-! ### rising -/
theorem rising_any {w : World} {b N : Nat} {S : Int → Prop} {l : List Int} (h : SetAt w b N S) (hN : N < 1000000000) (hu : l.Pairwise (· < ·)) (hl : ∀ x, x ∈ l ↔ S x) :
    Calls Try.prog 29 #[.map (some b)] w (GivesK l w) := by
  have G1 := Lib.hid (keys_any (some b) w)
  have G2 := Lib.hid (sorted_set h hN hu hl)
  clear h hN hu hl
  go_enter Try.func29, Try.ntmps29
  go_wp2_with (first
    | (go_at_call 42; refine G1.out.mono ?_; rintro e w1 ⟨rfl, rfl⟩)
    | (go_at_call 41; refine G2.out.mono ?_; rintro e w2 ⟨v, rfl, ho, hb⟩))
  go_ret
  exact ⟨v, rfl, ho, hb⟩
theorem rising_nil (w : World) : Calls Try.prog 29 #[.map none] w (GivesK [] w) := by
  have G1 := Lib.hid (keys_any none w)
  have G2 := Lib.hid (sorted_nil w)
  go_enter Try.func29, Try.ntmps29
  go_wp2_with (first
    | (go_at_call 42; refine G1.out.mono ?_; rintro e w1 ⟨rfl, rfl⟩)
    | (go_at_call 41; refine G2.out.mono ?_; rintro e w2 ⟨v, rfl, ho, hb⟩))
  go_ret
  exact ⟨v, rfl, ho, hb⟩
end Go.Proofs.Ytojmcjkeniepcaa.Sk
